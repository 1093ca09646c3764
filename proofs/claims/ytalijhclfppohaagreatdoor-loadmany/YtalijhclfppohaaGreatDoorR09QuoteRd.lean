/- . -/
import Derived.Test.YtalijhclfppohaaGreatDoorR08UtfConv
import Derived.BigQuiet
import Derived.Deep.QuietTactic
set_option linter.unusedSimpArgs false
set_option linter.unusedVariables false
set_option maxRecDepth 100000
namespace Go.Proofs.YtalijhclfppohaaGreatDoor
namespace Quo
open Utf Rws
open Go.RowKit
def Rd (B b:Nat) (l:List UInt8) (p:Nat) (out:List UInt8) (w:World):Prop:=Bld 178 B b [.string (mk l),.int .i64 (p:Int)] (Lib.byteCells out) w
def Fr (B b:Nat) (w w':World):Prop:=Below B w w'/\Lib.OthersKept 5 (some b) w w'
variable {B b:Nat} {l out:List UInt8} {p:Nat} {w w1 w2:World}
theorem Fr.trans (h:Fr B b w w1) (k:Fr B b w1 w2):Fr B b w w2:=⟨h.1.trans k.1,h.2.trans k.2⟩
theorem Fr.of (h:Below w.heap.size w w1) (hB:B<=w.heap.size):Fr B b w w1:=⟨h.mono hB,kept_of_below h⟩
theorem Fr.refl:Fr B b w w:=⟨Below.refl _ _,Lib.OthersKept.refl _ _ _⟩
theorem Fr.set (h:Fr B b w w1) (hB:B<=b) (i:Nat) (x:Value):Fr B b w (w1.setCell ⟨b,i,none⟩ x):=⟨h.1.setCell (p:=⟨b,i,none⟩) hB _,h.2.setCell ⟨b,i,none⟩ rfl _⟩
theorem Rd.s (h:Rd B b l p out w):w.cell? ⟨b,2,none⟩=some (.string (mk l)):=Bld.cell h 0
theorem Rd.at_ (h:Rd B b l p out w):w.cell? ⟨b,3,none⟩=some (.int .i64 (p:Int)):=Bld.cell h 1
theorem Rd.fz (h:Rd B b l p out w) (i:Nat):w.frozen? ⟨b,i,none⟩=false:=Bld.frozen h i
theorem Rd.lt (h:Rd B b l p out w):b<w.heap.size:=Bld.lt h
theorem Rd.base (h:Rd B b l p out w):B<=b:=by rcases h with ⟨h,_⟩ | ⟨h,_⟩<;>exact h
theorem Rd.set (h:Rd B b l p out w) (q:Nat):Rd B b l q out (w.setCell ⟨b,3,none⟩ (.int .i64 (q:Int))):=Bld.tail h 1 (.int .i64 (q:Int))
theorem Rd.later (h:Rd B b l p out w) (hb:Below w.heap.size w w1):Rd B b l p out w1:=Bld.later h hb
theorem below_alloc (w:World) (o:Obj):Below w.heap.size w (w.alloc o):=(Below.refl _ _).alloc (Nat.le_refl _) _
theorem Fr.keep (h:Fr B b w w1) {k:Nat} {o:Obj} (hk:w.heap[k]?=some o) (hne:k≠b) (ho:∀ c fz,o≠.cells c 5 fz):w1.heap[k]?=some o:=h.2 k o hk (by simpa using hne) ho
def Sh (w:World) (k:Nat) (t:TypeId):Prop:=∃ cs fz,w.heap[k]?=some (.cells cs t fz)
theorem Sh.set {k:Nat} {t:TypeId} (h:Sh w k t) (a:Addr) (x:Value):Sh (w.setCell a x) k t:=by
 obtain⟨cs,fz,h⟩:=h;by_cases e:k=a.block
 ·subst e;unfold Sh;simp[World.setCell,Array.getElem?_modify,h]
 ·exact⟨cs,fz,(Below.heap_setCell _ _ _ _ (fun q=>e q)).trans h⟩
theorem BAt.other {T t:TypeId} {q:Value} {tl bs:List Value} (h:BAt T B b q tl bs w) {k:Nat} (hk:Sh w k t) (ht:t≠5) (hne:k≠b) (i:Nat) (x:Value):BAt T B b q tl bs (w.setCell ⟨k,i,none⟩ x):=by
 obtain⟨hB,v,hb,hown,hv,h0⟩:=h;obtain⟨cs,fz,hk⟩:=hk;refine⟨hB,v,(Below.heap_setCell _ _ _ _ (fun e=>hne e.symm)).trans hb,?_,hv,h0⟩;exact hown.kept (row:=some k) ⟨rfl,rfl,rfl,by simp[World.setCell],fun j _ hj=>Below.heap_setCell _ _ _ _ (fun e=>hj (by simp[e]))⟩ (Or.inr (Lib.ownBlock_neF hown hk ht))
theorem Bld.other {T t:TypeId} {tl bs:List Value} (h:Bld T B b tl bs w) {k:Nat} (hk:Sh w k t) (ht:t≠5) (hne:k≠b) (i:Nat) (x:Value):Bld T B b tl bs (w.setCell ⟨k,i,none⟩ x) :=
 h.elim (fun y=>.inl (y.other hk ht hne i x)) (fun y=>.inr (y.other hk ht hne i x))
theorem Rd.fault2 (h:Rd B b l p out w) {k:Nat} (hk:Sh w k 32) (hne:k≠b) (x y:Value):Rd B b l p out ((w.setCell ⟨k,0,none⟩ x).setCell ⟨k,1,none⟩ y) :=
 Bld.other (Bld.other h hk (by decide) hne 0 x) (hk.set _ _) (by decide) hne 1 y
theorem Fr.new (h:Fr B b w w1) {k:Nat} (hB:B<=k) (hk:w.heap.size<=k) (i:Nat) (x:Value):Fr B b w (w1.setCell ⟨k,i,none⟩ x):=by
 refine⟨h.1.setCell (p:=⟨k,i,none⟩) hB _,fun j o hj hb ho=> ?_⟩;have hlt:j<w.heap.size:=(Array.getElem?_eq_some_iff.1 hj).1;rw[Below.heap_setCell _ _ _ _ (fun e=>by simp only at e;omega)];exact h.2 j o hj hb ho
theorem Fr.fault2 (h:Fr B b w w1) {k:Nat} (hB:B<=k) (hk:w.heap.size<=k) (x y:Value):Fr B b w ((w1.setCell ⟨k,0,none⟩ x).setCell ⟨k,1,none⟩ y):=(h.new hB hk 0 x).new hB hk 1 y
theorem fault_any (y:Int) (w:World) (h:w.cell? ⟨b,3,none⟩=some (.int .i64 (p:Int))) :
  Calls Tryz.prog 154 #[.pointer (some ⟨b,0,none⟩),.int .i64 y] w fun e w'=>e=.returned (.agg #[.int .i64 y,.int .i64 (p:Int)])/\Below w.heap.size w w':=by
 have hlt:b<w.heap.size:=World.block_lt_of_cell? w _ h;have h2:(w.alloc (.cells #[.int .i64 0,.int .i64 0] 32)).cell? ⟨b,3,none⟩=some (.int .i64 (p:Int)):=((below_alloc w _).cell (p:=⟨b,3,none⟩) hlt).trans h;go_enter Tryz.func154,Tryz.ntmps154;go_wp2;refine bodyPost_ret (v:=.agg #[.int .i64 y,.int .i64 (p:Int)]) (by simp[results,Tryz.results154,go_sem]) rfl ⟨rfl,?_⟩;exact(Below.refl _ _).alloc (Nat.le_refl _) _
theorem end_any (l:List UInt8) (w:World) (h:w.cell? ⟨b,2,none⟩=some (.string (mk l))) :
  Calls Tryz.prog 178 #[.pointer (some ⟨b,0,none⟩)] w fun e w'=>e=.returned (.agg #[.int .i64 4,.int .i64 (l.length:Int)])/\Below w.heap.size w w':=by
 have hlt:b<w.heap.size:=World.block_lt_of_cell? w _ h;have hsz:=mk_size l;have h2:(w.alloc (.cells #[.int .i64 0,.int .i64 0] 32)).cell? ⟨b,2,none⟩=some (.string (mk l)):=((below_alloc w _).cell (p:=⟨b,2,none⟩) hlt).trans h;go_enter Tryz.func178,Tryz.ntmps178;go_wp2;refine bodyPost_ret (v:=.agg #[.int .i64 4,.int .i64 (l.length:Int)]) (by simp[results,Tryz.results178,go_sem,hsz]) rfl ⟨rfl,?_⟩;exact(Below.refl _ _).alloc (Nat.le_refl _) _
theorem take_sign {l:List UInt8} (h:may (fst l).1=true):sgb (fst l).1=l.take (fk l):=by
 have h0:=may_fst h;obtain⟨h1,h2,h3⟩:=fst_sound l h0;unfold sgb;rw[if_pos h1];have e:fk l=(u8s (byt (fst l).1)).length:=by unfold fk;rw[h2,u8s_len];omega
 have q:=congrArg (List.take (u8s (byt (fst l).1)).length) h3;rw[List.take_left]at q;rw[e];exact q.symm
set_option maxHeartbeats 1000000 in
theorem sign_any (w:World) (h:Rd B b l p out w) (hp:p<l.length) (hl:l.length<=140737488351232) (ho:out.length+4<=140737488355328) (hBw:B<=w.heap.size) :
  Calls Tryz.prog 177 #[.pointer (some ⟨b,0,none⟩)] w fun e w' =>
   (may (fst (l.drop p)).1=true->e=.returned (.agg #[.int .i64 0,.int .i64 0])/\Rd B b l (p+fk (l.drop p)) (out++(l.drop p).take (fk (l.drop p))) w'/\Fr B b w w') /\
   (may (fst (l.drop p)).1=false->e=.returned (.agg #[.int .i64 8,.int .i64 (p:Int)])/\Fr B b w w'):=by
 have hlt:=h.lt;have hB:=h.base;have hs':(mk l).size<=maxLen:=by rw[mk_size];unfold maxLen;omega
 have hsz:=mk_size l;have hne:l.drop p≠[]:=by intro e;have:=congrArg List.length e;rw[List.length_drop]at this;simp at this;omega
 have hf:=fk_pos _ hne;rw[List.length_drop]at hf;obtain⟨f1,f2,f3,f4⟩:=hf;have hts:may (fst (l.drop p)).1=true->sgb (fst (l.drop p)).1=(l.drop p).take (fk (l.drop p)):=take_sign;obtain⟨n,hn⟩:∃ n,n=(fst (l.drop p)).1:=⟨_,rfl⟩;obtain⟨k,hk⟩:∃ k,k=fk (l.drop p):=⟨_,rfl⟩
 have hF:Hid (∀ w,Calls Tryz.prog 59 #[.string ((mk l).extract p (mk l).size)] w fun e w'=>e=.returned (.tuple #[.int .i64 n,.int .i64 (k:Int)])/\w=w'):=fun w=>by
  have h:=firstAt_any (mk l) p w hs';rw[mk_data,<-f4,<-hn,<-hk]at h;exact h
 rw[<-hk]at f1 f2 f3 hts |-;rw[<-hn]at hts |-;clear f4 hn hk hne
 -- behind the fault's cell
 obtain⟨W,hW⟩:∃ W,w.alloc (.cells #[.int .i64 0,.int .i64 0] 32)=W:=⟨_,rfl⟩;have hbW:Below w.heap.size w W:=by rw[<-hW];exact below_alloc _ _
 have hRW:Rd B b l p out W:=h.later hbW;have hcW:W.heap[w.heap.size]?=some (.cells #[.int .i64 0,.int .i64 0] 32 (0,0)):=by rw[<-hW];exact heap_alloc_new w _
 have c2:=hRW.s;have c3:=hRW.at_;have HR:Hid (Rd B b l p out W):=hRW;have HBW:Hid (Below w.heap.size w W):=hbW;have HCW:Hid (W.heap[w.heap.size]?=some (.cells #[.int .i64 0,.int .i64 0] 32 (0,0))):=hcW;clear hRW hbW hcW h;go_enter Tryz.func177,Tryz.ntmps177;go_wp2;go_quiet ((go_at_call 59;exact(hF.out _).mono (fun _ _ ⟨he,hw⟩=>⟨he,_,hw.symm⟩)));obtain⟨W1,hW1⟩:∃ W1,W1=W.drewN nq:=⟨_,rfl⟩;have HB1:Hid (Below w.heap.size w W1):=by rw[hW1];exact below_drewN HBW.out nq
 have HR1:Hid (Rd B b l p out W1):=by rw[hW1];exact HR.out.later (below_drewN (Below.refl _ _) nq)
 have HC1:Hid (W1.heap[w.heap.size]?=some (.cells #[.int .i64 0,.int .i64 0] 32 (0,0))):=by rw[hW1];exact HCW.out
 rw[<-hW1];clear hW1 HR HBW HCW c2 c3 hW hF;clear W;have s1:=HB1.out.size;have c3:=HR1.out.at_;cases hm:may n
 ·have HFI:Hid (∀ W2,Below W1.heap.size W1 W2->W2.cell? ⟨w.heap.size,0,none⟩=some (.int .i64 0)/\W2.cell? ⟨w.heap.size,1,none⟩=some (.int .i64 0)/\W2.frozen? ⟨w.heap.size,0,none⟩=false/\W2.frozen? ⟨w.heap.size,1,none⟩=false/\Below w.heap.size w W2):=fun W2 hb=>by
   have hk:W2.heap[w.heap.size]?=some (.cells #[.int .i64 0,.int .i64 0] 32 (0,0)):=(hb.block _ (Array.getElem?_eq_some_iff.1 HC1.out).1).trans HC1.out;exact⟨by rw[Lib.cell_of_heap hk];rfl,by rw[Lib.cell_of_heap hk];rfl,Lib.frozen_of_heap hk 0,Lib.frozen_of_heap hk 1,HB1.out.trans (hb.mono s1)⟩
  clear hts HR1 HC1 HB1;go_wp2_with (first | (go_at_call 199;refine(stands_any _ _).mono ?_;rintro e w' ⟨rfl,rfl⟩) | (go_at_call 154;refine(fault_any _ _ c3).mono ?_;rintro e W2 ⟨rfl,hb2⟩;obtain⟨d0,d1,d2,d3,d4⟩:=HFI.out W2 hb2;clear hb2));refine bodyPost_ret (v:=.agg #[.int .i64 8,.int .i64 (p:Int)]) (by simp[results,Tryz.results177,go_sem,d0,d1]) rfl ?_;refine⟨fun h=>absurd h (by rw[hm];decide),fun _=>⟨rfl,?_⟩⟩;exact Fr.of ((d4.setCell (p:=⟨w.heap.size,0,none⟩) (Nat.le_refl _) _).setCell (p:=⟨w.heap.size,1,none⟩) (Nat.le_refl _) _) hBw
 ·have HTS:Hid (sgb n=List.take k (List.drop p l)):=hts hm;clear hts c3;go_wp2_with (first | (go_at_call 199;refine(stands_any _ _).mono ?_;rintro e w' ⟨rfl,rfl⟩));refine(putSign_any embR n out HR1.out ho (by omega)).mono ?_;rintro e W2 ⟨rfl,hR2,hb2,hk2⟩;have HR2:Hid (Rd B b l p (out++sgb n) W2):=hR2;have HF2:Hid (Fr B b w W2):=(Fr.of HB1.out hBw).trans ⟨hb2,hk2⟩;have hC2:W2.heap[w.heap.size]?=some (.cells #[.int .i64 0,.int .i64 0] 32 (0,0)):=hk2 _ _ HC1.out (by simp;omega) (fun c fz h=>by cases h);have hR3:=HR2.out.set (p+k);obtain⟨W3,hW3⟩:∃ W3,W2.setCell ⟨b,3,none⟩ (.int .i64 ((p+k:Nat):Int))=W3:=⟨_,rfl⟩;have hC3:W3.heap[w.heap.size]?=some (.cells #[.int .i64 0,.int .i64 0] 32 (0,0)):=by rw[<-hW3,Below.heap_setCell _ _ _ _ (fun e=>by simp at e;omega)];exact hC2
  rw[hW3]at hR3;have HR3:Hid (Rd B b l (p+k) (out++sgb n) W3):=hR3;have HF3:Hid (Fr B b w W3):=by rw[<-hW3];exact HF2.out.set hB 3 _
  rw[Int.natCast_add]at hW3;have c3:=HR2.out.at_;have z3:=HR2.out.fz 3;have d0:W3.cell? ⟨w.heap.size,0,none⟩=some (.int .i64 0):=by rw[Lib.cell_of_heap hC3];rfl
  have d1:W3.cell? ⟨w.heap.size,1,none⟩=some (.int .i64 0):=by rw[Lib.cell_of_heap hC3];rfl
  have d2:W3.frozen? ⟨w.heap.size,0,none⟩=false:=Lib.frozen_of_heap hC3 0;have d3:W3.frozen? ⟨w.heap.size,1,none⟩=false:=Lib.frozen_of_heap hC3 1;have HS3:Hid (Sh W3 w.heap.size 32):=⟨_,_,hC3⟩;clear hR2 hb2 hk2 hR3 HR1 HB1 HC1 hC2 hC3;go_wp2;refine bodyPost_ret (v:=.agg #[.int .i64 0,.int .i64 0]) (by simp[results,Tryz.results177,go_sem,d0,d1]) rfl ?_;refine⟨fun _=>⟨rfl,?_,HF3.out.fault2 hBw (Nat.le_refl _) _ _⟩,fun h=>absurd h (by rw[hm];decide)⟩;rw[<-HTS.out];exact HR3.out.fault2 HS3.out (by omega) _ _
end Quo
namespace Quo
open Utf Rws
open Go.RowKit
theorem hexR_two:∀ (k:Nat) (l:List UInt8) (acc:Int),(hexR k l acc).2=0\/(hexR k l acc).2=3\/(hexR k l acc).2=4
 | 0,_,_=>.inl rfl
 | k+1,[],_=>.inr (.inr rfl)
 | k+1,c::r,acc=>by
  rw[hexR];split
  ·exact .inr (.inl rfl)
  ·exact hexR_two k r _
theorem mnt_esc {m:List UInt8} (h:2<=m.length) {n:Int} (hc:mnt (m.getD 1 0)=some n):escR m=(n,2,0):=by
 unfold escR;rw[if_neg (by omega)];generalize m.getD 1 0=c at *;unfold mnt at hc;by_cases h1:c=34
 ·rw[if_pos h1]at hc |-;cases hc;rfl
 rw[if_neg h1]at hc |-;by_cases h2:c=92
 ·rw[if_pos h2]at hc |-;cases hc;rfl
 rw[if_neg h2]at hc |-;by_cases h3:c=110
 ·rw[if_pos h3]at hc |-;cases hc;rfl
 rw[if_neg h3]at hc |-;by_cases h4:c=116
 ·rw[if_pos h4]at hc |-;cases hc;rfl
 rw[if_neg h4]at hc |-;by_cases h5:c=114
 ·rw[if_pos h5]at hc |-;cases hc;rfl
 rw[if_neg h5]at hc |-;by_cases h6:c=48
 ·rw[if_pos h6]at hc |-;cases hc;rfl
 rw[if_neg h6]at hc;cases hc
theorem mnt_sgn {c:UInt8} {n:Int} (hc:mnt c=some n):sgn n=true:=by
 unfold mnt at hc;by_cases h1:c=34
 ·rw[if_pos h1]at hc;cases hc;decide
 rw[if_neg h1]at hc;by_cases h2:c=92
 ·rw[if_pos h2]at hc;cases hc;decide
 rw[if_neg h2]at hc;by_cases h3:c=110
 ·rw[if_pos h3]at hc;cases hc;decide
 rw[if_neg h3]at hc;by_cases h4:c=116
 ·rw[if_pos h4]at hc;cases hc;decide
 rw[if_neg h4]at hc;by_cases h5:c=114
 ·rw[if_pos h5]at hc;cases hc;decide
 rw[if_neg h5]at hc;by_cases h6:c=48
 ·rw[if_pos h6]at hc;cases hc;decide
 rw[if_neg h6]at hc;cases hc
theorem dgs_esc {m:List UInt8} (h:2<=m.length) (hc:mnt (m.getD 1 0)=none):escR m=if dgs (m.getD 1 0)=0 then (0,0,3)else escH m (dgs (m.getD 1 0)):=by
 unfold escR;rw[if_neg (by omega)];generalize m.getD 1 0=c at *;unfold mnt at hc;by_cases h1:c=34
 ·rw[if_pos h1]at hc;cases hc
 rw[if_neg h1]at hc |-;by_cases h2:c=92
 ·rw[if_pos h2]at hc;cases hc
 rw[if_neg h2]at hc |-;by_cases h3:c=110
 ·rw[if_pos h3]at hc;cases hc
 rw[if_neg h3]at hc |-;by_cases h4:c=116
 ·rw[if_pos h4]at hc;cases hc
 rw[if_neg h4]at hc |-;by_cases h5:c=114
 ·rw[if_pos h5]at hc;cases hc
 rw[if_neg h5]at hc |-;by_cases h6:c=48
 ·rw[if_pos h6]at hc;cases hc
 rw[if_neg h6];unfold dgs;by_cases h7:c=120
 ·rw[if_pos h7,if_pos h7,if_neg (by decide)]
 rw[if_neg h7,if_neg h7];by_cases h8:c=117
 ·rw[if_pos h8,if_pos h8,if_neg (by decide)]
 rw[if_neg h8,if_neg h8];by_cases h9:c=85
 ·rw[if_pos h9,if_pos h9,if_neg (by decide)]
 rw[if_neg h9,if_neg h9,if_pos rfl]
theorem dgs_le (c:UInt8):dgs c<=8:=by
 unfold dgs;split
 ·decide
 split
 ·decide
 split<;>decide
variable {B b:Nat} {l out:List UInt8} {p:Nat} {w w1 w2:World}
def EscRes (B b:Nat) (l:List UInt8) (p:Nat) (out:List UInt8) (w:World) (r:Int × Nat × Nat) (e:Ending) (w':World):Prop :=
 Fr B b w w'/\(r.2.2=0->e=.returned (.agg #[.int .i64 0,.int .i64 0])/\Rd B b l (p+r.2.1) (out++u8s (byt r.1)) w') /\
 (r.2.2=4->e=.returned (.agg #[.int .i64 4,.int .i64 (l.length:Int)]))/\(r.2.2=3->e=.returned (.agg #[.int .i64 3,.int .i64 (p:Int)]))
structure Cel (B b:Nat) (w W:World):Prop where
 fr:Fr B b w W
 sz:w.heap.size<=W.heap.size
 cl:W.heap[w.heap.size]?=some (.cells #[.int .i64 0,.int .i64 0] 32 (0,0))
theorem Cel.facts {W:World} (h:Cel B b w W):W.cell? ⟨w.heap.size,0,none⟩=some (.int .i64 0)/\W.cell? ⟨w.heap.size,1,none⟩=some (.int .i64 0)/\W.frozen? ⟨w.heap.size,0,none⟩=false/\W.frozen? ⟨w.heap.size,1,none⟩=false :=
 ⟨by rw[Lib.cell_of_heap h.cl];rfl,by rw[Lib.cell_of_heap h.cl];rfl,Lib.frozen_of_heap h.cl 0,Lib.frozen_of_heap h.cl 1⟩
theorem Cel.step {W W2:World} (h:Cel B b w W) (hb:b<w.heap.size) (hf:Fr B b W W2):Cel B b w W2 :=
 ⟨h.fr.trans hf,Nat.le_trans h.sz hf.1.size,hf.2 _ _ h.cl (by simp;omega) (fun c fz e=>by cases e)⟩
theorem Cel.set {W:World} (h:Cel B b w W) (hB:B<=b) (hb:b<w.heap.size) (i:Nat) (x:Value):Cel B b w (W.setCell ⟨b,i,none⟩ x) :=
 h.step hb (Fr.refl.set hB i x)
theorem Cel.below {W W2:World} (h:Cel B b w W) (hB:B<=w.heap.size) (hb:b<w.heap.size) (hf:Below W.heap.size W W2):Cel B b w W2:=h.step hb (Fr.of hf (Nat.le_trans hB h.sz))
theorem Cel.sh {W:World} (h:Cel B b w W):Sh W w.heap.size 32:=⟨_,_,h.cl⟩
theorem Cel.new (B b:Nat) (w:World) (hB:B<=w.heap.size):Cel B b w (w.alloc (.cells #[.int .i64 0,.int .i64 0] 32)) :=
 ⟨Fr.of (below_alloc _ _) hB,by simp,heap_alloc_new w _⟩
theorem Cel.fin {W:World} (h:Cel B b w W) (hB:B<=w.heap.size) (x y:Value):Fr B b w ((W.setCell ⟨w.heap.size,0,none⟩ x).setCell ⟨w.heap.size,1,none⟩ y):=h.fr.fault2 hB (Nat.le_refl _) x y
theorem ext_drop (l:List UInt8) (q:Nat):(mk l).extract q l.length=mk (l.drop q):=by
 rw[mk_ext,List.take_of_length_le (by rw[List.length_drop];exact Nat.le_refl _)]
set_option maxHeartbeats 1000000 in
theorem esc_end (w:World) (h:Rd B b l p out w) (hp:p<l.length) (hl:l.length<=140737488351232) (ho:out.length+4<=140737488355328) (hBw:B<=w.heap.size) (hT:Tabs w) (hB2:7<=B) (m:List UInt8) (hm:Hid (m=l.drop (p+1))) (h0:m=[]) :
  Calls Tryz.prog 179 #[.pointer (some ⟨b,0,none⟩)] w fun e w'=>EscRes B b l p out w (0,0,4) e w':=by
 have hlt:=h.lt;have hB:=h.base;have hsz:=mk_size l;obtain⟨W,hW⟩:∃ W,w.alloc (.cells #[.int .i64 0,.int .i64 0] 32)=W:=⟨_,rfl⟩;have hbW:Below w.heap.size w W:=by rw[<-hW];exact below_alloc _ _
 have HC:Hid (Cel B b w W):=by rw[<-hW];exact Cel.new B b w hBw
 have hRW:Rd B b l p out W:=h.later hbW;have HT:Hid (Tabs W):=hT.later hbW;have c2:=hRW.s;have c3:=hRW.at_;have HR:Hid (Rd B b l p out W):=hRW;clear hRW hbW h hT;go_enter Tryz.func179,Tryz.ntmps179;go_wp2;go_quiet (fail);rw[ext_drop];obtain⟨W1,hW1⟩:∃ W1,W1=W.drewN nq:=⟨_,rfl⟩;have HC1:Hid (Cel B b w W1):=by rw[hW1];exact HC.out.below hBw hlt (below_drewN (Below.refl _ _) nq)
 have HR1:Hid (Rd B b l p out W1):=by rw[hW1];exact HR.out.later (below_drewN (Below.refl _ _) nq)
 have HT1:Hid (Tabs W1):=by rw[hW1];exact HT.out.later (below_drewN (Below.refl _ _) nq)
 rw[<-hW1];clear hW1 HR HC HT c2 c3 hW hsz;clear W;have s1:=HC1.out.sz;rw[<-hm.out];have hmz:=mk_size m;have hq:((mk m).toList==[])=true:=by rw[ByteArray.toList_eq,mk_data,h0];rfl
 have HFI:Hid (∀ W2,Below W1.heap.size W1 W2->Cel B b w W2):=fun W2 hb=>HC1.out.below hBw hlt hb
 have c2:=HR1.out.s;clear HC1 HR1 HT1 hm h0;go_wp2_with (first | (go_at_call 178;refine(end_any l _ c2).mono ?_;rintro e W2 ⟨rfl,hb2⟩;have HC2:Hid (Cel B b w W2):=HFI.out W2 hb2;obtain⟨d0,d1,d2,d3⟩:=HC2.out.facts;clear hb2));refine bodyPost_ret (v:=.agg #[.int .i64 4,.int .i64 (l.length:Int)]) (by simp[results,Tryz.results179,go_sem,d0,d1]) rfl ?_;exact⟨HC2.out.fin hBw _ _,fun h=>by simp at h,fun _=>rfl,fun h=>by simp at h⟩
set_option maxHeartbeats 1000000 in
theorem esc_short (w:World) (h:Rd B b l p out w) (hp:p<l.length) (hl:l.length<=140737488351232) (ho:out.length+4<=140737488355328) (hBw:B<=w.heap.size) (hT:Tabs w) (hB2:7<=B) (m:List UInt8) (hm:Hid (m=l.drop (p+1))) (hm1:1<=m.length) (c:UInt8) (hg:∀ h,(mk m)[0]'h=c) (hm2:m.length<=140737488351232) (n:Int) (hmn:mnt c=some n) :
  Calls Tryz.prog 179 #[.pointer (some ⟨b,0,none⟩)] w fun e w'=>EscRes B b l p out w (n,2,0) e w':=by
 have hlt:=h.lt;have hB:=h.base;have hsz:=mk_size l;obtain⟨W,hW⟩:∃ W,w.alloc (.cells #[.int .i64 0,.int .i64 0] 32)=W:=⟨_,rfl⟩;have hbW:Below w.heap.size w W:=by rw[<-hW];exact below_alloc _ _
 have HC:Hid (Cel B b w W):=by rw[<-hW];exact Cel.new B b w hBw
 have hRW:Rd B b l p out W:=h.later hbW;have HT:Hid (Tabs W):=hT.later hbW;have c2:=hRW.s;have c3:=hRW.at_;have HR:Hid (Rd B b l p out W):=hRW;clear hRW hbW h hT;go_enter Tryz.func179,Tryz.ntmps179;go_wp2;go_quiet (fail);rw[ext_drop];obtain⟨W1,hW1⟩:∃ W1,W1=W.drewN nq:=⟨_,rfl⟩;have HC1:Hid (Cel B b w W1):=by rw[hW1];exact HC.out.below hBw hlt (below_drewN (Below.refl _ _) nq)
 have HR1:Hid (Rd B b l p out W1):=by rw[hW1];exact HR.out.later (below_drewN (Below.refl _ _) nq)
 have HT1:Hid (Tabs W1):=by rw[hW1];exact HT.out.later (below_drewN (Below.refl _ _) nq)
 rw[<-hW1];clear hW1 HR HC HT c2 c3 hW hsz;clear W;have s1:=HC1.out.sz;rw[<-hm.out];have hmz:=mk_size m;have hq:((mk m).toList==[])=false:=by rw[ByteArray.toList_eq,mk_data];cases m;simp at hm1;simp
 have hME:=meant_any c W1 HT1.out;rw[hmn]at hME;have HS:Hid (sgn n=true):=mnt_sgn hmn;have HME:Hid (Calls Tryz.prog 201 #[.int .u8 (c.toNat:Int)] W1 fun e w'=>e=.returned (.tuple #[.int .i64 n,.bool true])/\Below W1.heap.size W1 w'):=hME;clear hME hm hmn;go_wp2_with (first | (go_at_call 201;refine HME.out.mono ?_;rintro e W2 ⟨rfl,hb2⟩));have HC2:Hid (Cel B b w W2):=HC1.out.below hBw hlt hb2;have HR2:Hid (Rd B b l p out W2):=HR1.out.later hb2;clear HME HC1 HR1 HT1 hb2;refine(putSign_any embR n out HR2.out ho (by have:=HC2.out.sz;omega)).mono ?_;rintro e W3 ⟨rfl,hR3,hb3,hk3⟩;rw[HS.out]
 have HR3:Hid (Rd B b l p (out++u8s (byt n)) W3):=by
  have q:Rd B b l p (out++sgb n) W3:=hR3;unfold sgb at q;rw[if_pos HS.out]at q;exact q
 have HC3:Hid (Cel B b w W3):=HC2.out.step hlt ⟨hb3,hk3⟩;obtain⟨W4,hW4⟩:∃ W4,W3.setCell ⟨b,3,none⟩ (.int .i64 ((p+2:Nat):Int))=W4:=⟨_,rfl⟩;have HR4:Hid (Rd B b l (p+2) (out++u8s (byt n)) W4):=by rw[<-hW4];exact HR3.out.set _
 have HC4:Hid (Cel B b w W4):=by rw[<-hW4];exact HC3.out.set hB hlt 3 _
 rw[show ((p+2:Nat):Int)=(p:Int)+2 by omega]at hW4;have c3:=HR3.out.at_;have z3:=HR3.out.fz 3;obtain⟨d0,d1,d2,d3⟩:=HC4.out.facts;clear hR3 hb3 hk3 HR2 HC2 HR3 HC3;go_wp2;refine bodyPost_ret (v:=.agg #[.int .i64 0,.int .i64 0]) (by simp[results,Tryz.results179,go_sem,d0,d1]) rfl ?_;exact⟨HC4.out.fin hBw _ _,fun _=>⟨rfl,HR4.out.fault2 HC4.out.sh (by omega) _ _⟩,fun h=>by simp at h,fun h=>by simp at h⟩
set_option maxHeartbeats 1000000 in
theorem esc_form (w:World) (h:Rd B b l p out w) (hp:p<l.length) (hl:l.length<=140737488351232) (ho:out.length+4<=140737488355328) (hBw:B<=w.heap.size) (hT:Tabs w) (hB2:7<=B) (m:List UInt8) (hm:Hid (m=l.drop (p+1))) (hm1:1<=m.length) (c:UInt8) (hg:∀ h,(mk m)[0]'h=c) (hm2:m.length<=140737488351232) (hmn:mnt c=none) (k:Nat) (hk:k=dgs c) (hk0:k=0) :
  Calls Tryz.prog 179 #[.pointer (some ⟨b,0,none⟩)] w fun e w'=>EscRes B b l p out w (0,0,3) e w':=by
 have hlt:=h.lt;have hB:=h.base;have hsz:=mk_size l;obtain⟨W,hW⟩:∃ W,w.alloc (.cells #[.int .i64 0,.int .i64 0] 32)=W:=⟨_,rfl⟩;have hbW:Below w.heap.size w W:=by rw[<-hW];exact below_alloc _ _
 have HC:Hid (Cel B b w W):=by rw[<-hW];exact Cel.new B b w hBw
 have hRW:Rd B b l p out W:=h.later hbW;have HT:Hid (Tabs W):=hT.later hbW;have c2:=hRW.s;have c3:=hRW.at_;have HR:Hid (Rd B b l p out W):=hRW;clear hRW hbW h hT;go_enter Tryz.func179,Tryz.ntmps179;go_wp2;go_quiet (fail);rw[ext_drop];obtain⟨W1,hW1⟩:∃ W1,W1=W.drewN nq:=⟨_,rfl⟩;have HC1:Hid (Cel B b w W1):=by rw[hW1];exact HC.out.below hBw hlt (below_drewN (Below.refl _ _) nq)
 have HR1:Hid (Rd B b l p out W1):=by rw[hW1];exact HR.out.later (below_drewN (Below.refl _ _) nq)
 have HT1:Hid (Tabs W1):=by rw[hW1];exact HT.out.later (below_drewN (Below.refl _ _) nq)
 rw[<-hW1];clear hW1 HR HC HT c2 c3 hW hsz;clear W;have s1:=HC1.out.sz;rw[<-hm.out];have hmz:=mk_size m;have hq:((mk m).toList==[])=false:=by rw[ByteArray.toList_eq,mk_data];cases m;simp at hm1;simp
 have hq0:((k:Int)==0)=true:=by simp;omega
 have hME:=meant_any c W1 HT1.out;rw[hmn]at hME;have HME:Hid (Calls Tryz.prog 201 #[.int .u8 (c.toNat:Int)] W1 fun e w'=>e=.returned (.tuple #[.int .i64 0,.bool false])/\Below W1.heap.size W1 w'):=hME;have HDG:Hid (∀ W,Tabs W->Calls Tryz.prog 202 #[.int .u8 (c.toNat:Int)] W fun e w'=>e=.returned (.int .i64 (k:Int))/\Below W.heap.size W w'):=fun W hT=>by rw[hk];exact digitsOf_any c W hT
 clear hME hm hmn hk;clear hk0;go_wp2_with (first | (go_at_call 201;refine HME.out.mono ?_;rintro e W2 ⟨rfl,hb2⟩) | (go_at_call 202;refine(HDG.out _ (HT1.out.later hb2)).mono ?_;rintro e W3 ⟨rfl,hb3⟩;have c2:=(HR1.out.later (hb2.trans (hb3.mono hb2.size))).s;have c3:=(HR1.out.later (hb2.trans (hb3.mono hb2.size))).at_) | (go_at_call 154;refine(fault_any _ _ c3).mono ?_;rintro e W4 ⟨rfl,hb4⟩;have HC4:Hid (Cel B b w W4):=((HC1.out.below hBw hlt hb2).below hBw hlt hb3).below hBw hlt hb4;obtain⟨d0,d1,d2,d3⟩:=HC4.out.facts;clear hb2 hb3 hb4));refine bodyPost_ret (v:=.agg #[.int .i64 3,.int .i64 (p:Int)]) (by simp[results,Tryz.results179,go_sem,d0,d1]) rfl ?_;exact⟨HC4.out.fin hBw _ _,fun h=>by simp at h,fun h=>by simp at h,fun _=>rfl⟩
end Quo
namespace Quo
open Utf Rws
open Go.RowKit
variable {B b:Nat} {l out:List UInt8} {p:Nat} {w w1 w2:World}
set_option maxHeartbeats 1000000 in
theorem esc_digit (w:World) (h:Rd B b l p out w) (hp:p<l.length) (hl:l.length<=140737488351232) (ho:out.length+4<=140737488355328) (hBw:B<=w.heap.size) (hT:Tabs w) (hB2:7<=B) (m:List UInt8) (hm:Hid (m=l.drop (p+1))) (hm1:1<=m.length) (c:UInt8) (hg:∀ h,(mk m)[0]'h=c) (hm2:m.length<=140737488351232) (hmn:mnt c=none) (k:Nat) (hk:k=dgs c) (hk0:k≠0) (hk8:k<=8) (n:Int) (t:List UInt8) (ht:Hid (t=m.drop 1)) (hX:Hid (hexR k t 0=(n,3))) :
  Calls Tryz.prog 179 #[.pointer (some ⟨b,0,none⟩)] w fun e w'=>EscRes B b l p out w (0,0,3) e w':=by
 have hlt:=h.lt;have hB:=h.base;have hsz:=mk_size l;obtain⟨W,hW⟩:∃ W,w.alloc (.cells #[.int .i64 0,.int .i64 0] 32)=W:=⟨_,rfl⟩;have hbW:Below w.heap.size w W:=by rw[<-hW];exact below_alloc _ _
 have HC:Hid (Cel B b w W):=by rw[<-hW];exact Cel.new B b w hBw
 have hRW:Rd B b l p out W:=h.later hbW;have HT:Hid (Tabs W):=hT.later hbW;have c2:=hRW.s;have c3:=hRW.at_;have HR:Hid (Rd B b l p out W):=hRW;clear hRW hbW h hT;go_enter Tryz.func179,Tryz.ntmps179;go_wp2;go_quiet (fail);rw[ext_drop];obtain⟨W1,hW1⟩:∃ W1,W1=W.drewN nq:=⟨_,rfl⟩;have HC1:Hid (Cel B b w W1):=by rw[hW1];exact HC.out.below hBw hlt (below_drewN (Below.refl _ _) nq)
 have HR1:Hid (Rd B b l p out W1):=by rw[hW1];exact HR.out.later (below_drewN (Below.refl _ _) nq)
 have HT1:Hid (Tabs W1):=by rw[hW1];exact HT.out.later (below_drewN (Below.refl _ _) nq)
 rw[<-hW1];clear hW1 HR HC HT c2 c3 hW hsz;clear W;have s1:=HC1.out.sz;rw[<-hm.out];have hmz:=mk_size m;have hq:((mk m).toList==[])=false:=by rw[ByteArray.toList_eq,mk_data];cases m;simp at hm1;simp
 have hq0:((k:Int)==0)=false:=by simp;omega
 have hME:=meant_any c W1 HT1.out;rw[hmn]at hME;have HME:Hid (Calls Tryz.prog 201 #[.int .u8 (c.toNat:Int)] W1 fun e w'=>e=.returned (.tuple #[.int .i64 0,.bool false])/\Below W1.heap.size W1 w'):=hME;have HDG:Hid (∀ W,Tabs W->Calls Tryz.prog 202 #[.int .u8 (c.toNat:Int)] W fun e w'=>e=.returned (.int .i64 (k:Int))/\Below W.heap.size W w'):=fun W hT=>by rw[hk];exact digitsOf_any c W hT
 clear hME hm hmn hk;have e4:(mk m).extract 1 m.length=mk t:=by rw[ht.out];exact ext_drop m 1
 have HNU:Hid (∀ W,Calls Tryz.prog 203 #[.string (mk t),.int .i64 (k:Int)] W fun e w'=>e=.returned (.tuple #[.int .i64 n,.int .i64 3])/\W=w'):=fun W=>by
  have q:=numberOf_any t k W hk8 (by rw[ht.out,List.length_drop];omega);rw[hX.out]at q;exact q
 clear hX ht;go_wp2_with (first | (go_at_call 201;refine HME.out.mono ?_;rintro e W2 ⟨rfl,hb2⟩) | (go_at_call 202;refine(HDG.out _ (HT1.out.later hb2)).mono ?_;rintro e W3 ⟨rfl,hb3⟩;have c2:=(HR1.out.later (hb2.trans (hb3.mono hb2.size))).s;have c3:=(HR1.out.later (hb2.trans (hb3.mono hb2.size))).at_) | (go_at_call 203;refine(HNU.out _).mono ?_;rintro e w' ⟨rfl,rfl⟩) | (go_at_call 154;refine(fault_any _ _ c3).mono ?_;rintro e W4 ⟨rfl,hb4⟩;have HC4:Hid (Cel B b w W4):=((HC1.out.below hBw hlt hb2).below hBw hlt hb3).below hBw hlt hb4;obtain⟨d0,d1,d2,d3⟩:=HC4.out.facts;clear hb2 hb3 hb4));refine bodyPost_ret (v:=.agg #[.int .i64 3,.int .i64 (p:Int)]) (by simp[results,Tryz.results179,go_sem,d0,d1]) rfl ?_;exact⟨HC4.out.fin hBw _ _,fun h=>by simp at h,fun h=>by simp at h,fun _=>rfl⟩
set_option maxHeartbeats 1000000 in
theorem esc_less (w:World) (h:Rd B b l p out w) (hp:p<l.length) (hl:l.length<=140737488351232) (ho:out.length+4<=140737488355328) (hBw:B<=w.heap.size) (hT:Tabs w) (hB2:7<=B) (m:List UInt8) (hm:Hid (m=l.drop (p+1))) (hm1:1<=m.length) (c:UInt8) (hg:∀ h,(mk m)[0]'h=c) (hm2:m.length<=140737488351232) (hmn:mnt c=none) (k:Nat) (hk:k=dgs c) (hk0:k≠0) (hk8:k<=8) (n:Int) (t:List UInt8) (ht:Hid (t=m.drop 1)) (hX:Hid (hexR k t 0=(n,4))) :
  Calls Tryz.prog 179 #[.pointer (some ⟨b,0,none⟩)] w fun e w'=>EscRes B b l p out w (0,0,4) e w':=by
 have hlt:=h.lt;have hB:=h.base;have hsz:=mk_size l;obtain⟨W,hW⟩:∃ W,w.alloc (.cells #[.int .i64 0,.int .i64 0] 32)=W:=⟨_,rfl⟩;have hbW:Below w.heap.size w W:=by rw[<-hW];exact below_alloc _ _
 have HC:Hid (Cel B b w W):=by rw[<-hW];exact Cel.new B b w hBw
 have hRW:Rd B b l p out W:=h.later hbW;have HT:Hid (Tabs W):=hT.later hbW;have c2:=hRW.s;have c3:=hRW.at_;have HR:Hid (Rd B b l p out W):=hRW;clear hRW hbW h hT;go_enter Tryz.func179,Tryz.ntmps179;go_wp2;go_quiet (fail);rw[ext_drop];obtain⟨W1,hW1⟩:∃ W1,W1=W.drewN nq:=⟨_,rfl⟩;have HC1:Hid (Cel B b w W1):=by rw[hW1];exact HC.out.below hBw hlt (below_drewN (Below.refl _ _) nq)
 have HR1:Hid (Rd B b l p out W1):=by rw[hW1];exact HR.out.later (below_drewN (Below.refl _ _) nq)
 have HT1:Hid (Tabs W1):=by rw[hW1];exact HT.out.later (below_drewN (Below.refl _ _) nq)
 rw[<-hW1];clear hW1 HR HC HT c2 c3 hW hsz;clear W;have s1:=HC1.out.sz;rw[<-hm.out];have hmz:=mk_size m;have hq:((mk m).toList==[])=false:=by rw[ByteArray.toList_eq,mk_data];cases m;simp at hm1;simp
 have hq0:((k:Int)==0)=false:=by simp;omega
 have hME:=meant_any c W1 HT1.out;rw[hmn]at hME;have HME:Hid (Calls Tryz.prog 201 #[.int .u8 (c.toNat:Int)] W1 fun e w'=>e=.returned (.tuple #[.int .i64 0,.bool false])/\Below W1.heap.size W1 w'):=hME;have HDG:Hid (∀ W,Tabs W->Calls Tryz.prog 202 #[.int .u8 (c.toNat:Int)] W fun e w'=>e=.returned (.int .i64 (k:Int))/\Below W.heap.size W w'):=fun W hT=>by rw[hk];exact digitsOf_any c W hT
 clear hME hm hmn hk;have e4:(mk m).extract 1 m.length=mk t:=by rw[ht.out];exact ext_drop m 1
 have HNU:Hid (∀ W,Calls Tryz.prog 203 #[.string (mk t),.int .i64 (k:Int)] W fun e w'=>e=.returned (.tuple #[.int .i64 n,.int .i64 4])/\W=w'):=fun W=>by
  have q:=numberOf_any t k W hk8 (by rw[ht.out,List.length_drop];omega);rw[hX.out]at q;exact q
 clear hX ht;go_wp2_with (first | (go_at_call 201;refine HME.out.mono ?_;rintro e W2 ⟨rfl,hb2⟩) | (go_at_call 202;refine(HDG.out _ (HT1.out.later hb2)).mono ?_;rintro e W3 ⟨rfl,hb3⟩;have c2:=(HR1.out.later (hb2.trans (hb3.mono hb2.size))).s;have c3:=(HR1.out.later (hb2.trans (hb3.mono hb2.size))).at_) | (go_at_call 203;refine(HNU.out _).mono ?_;rintro e w' ⟨rfl,rfl⟩) | (go_at_call 178;refine(end_any l _ c2).mono ?_;rintro e W4 ⟨rfl,hb4⟩;have HC4:Hid (Cel B b w W4):=((HC1.out.below hBw hlt hb2).below hBw hlt hb3).below hBw hlt hb4;obtain⟨d0,d1,d2,d3⟩:=HC4.out.facts;clear hb2 hb3 hb4));refine bodyPost_ret (v:=.agg #[.int .i64 4,.int .i64 (l.length:Int)]) (by simp[results,Tryz.results179,go_sem,d0,d1]) rfl ?_;exact⟨HC4.out.fin hBw _ _,fun h=>by simp at h,fun _=>rfl,fun h=>by simp at h⟩
set_option maxHeartbeats 1000000 in
theorem esc_none (w:World) (h:Rd B b l p out w) (hp:p<l.length) (hl:l.length<=140737488351232) (ho:out.length+4<=140737488355328) (hBw:B<=w.heap.size) (hT:Tabs w) (hB2:7<=B) (m:List UInt8) (hm:Hid (m=l.drop (p+1))) (hm1:1<=m.length) (c:UInt8) (hg:∀ h,(mk m)[0]'h=c) (hm2:m.length<=140737488351232) (hmn:mnt c=none) (k:Nat) (hk:k=dgs c) (hk0:k≠0) (hk8:k<=8) (n:Int) (t:List UInt8) (ht:Hid (t=m.drop 1)) (hX:Hid (hexR k t 0=(n,0))) (HS:Hid (sgn n=false)) :
  Calls Tryz.prog 179 #[.pointer (some ⟨b,0,none⟩)] w fun e w'=>EscRes B b l p out w (0,0,3) e w':=by
 have hlt:=h.lt;have hB:=h.base;have hsz:=mk_size l;obtain⟨W,hW⟩:∃ W,w.alloc (.cells #[.int .i64 0,.int .i64 0] 32)=W:=⟨_,rfl⟩;have hbW:Below w.heap.size w W:=by rw[<-hW];exact below_alloc _ _
 have HC:Hid (Cel B b w W):=by rw[<-hW];exact Cel.new B b w hBw
 have hRW:Rd B b l p out W:=h.later hbW;have HT:Hid (Tabs W):=hT.later hbW;have c2:=hRW.s;have c3:=hRW.at_;have HR:Hid (Rd B b l p out W):=hRW;clear hRW hbW h hT;go_enter Tryz.func179,Tryz.ntmps179;go_wp2;go_quiet (fail);rw[ext_drop];obtain⟨W1,hW1⟩:∃ W1,W1=W.drewN nq:=⟨_,rfl⟩;have HC1:Hid (Cel B b w W1):=by rw[hW1];exact HC.out.below hBw hlt (below_drewN (Below.refl _ _) nq)
 have HR1:Hid (Rd B b l p out W1):=by rw[hW1];exact HR.out.later (below_drewN (Below.refl _ _) nq)
 have HT1:Hid (Tabs W1):=by rw[hW1];exact HT.out.later (below_drewN (Below.refl _ _) nq)
 rw[<-hW1];clear hW1 HR HC HT c2 c3 hW hsz;clear W;have s1:=HC1.out.sz;rw[<-hm.out];have hmz:=mk_size m;have hq:((mk m).toList==[])=false:=by rw[ByteArray.toList_eq,mk_data];cases m;simp at hm1;simp
 have hq0:((k:Int)==0)=false:=by simp;omega
 have hME:=meant_any c W1 HT1.out;rw[hmn]at hME;have HME:Hid (Calls Tryz.prog 201 #[.int .u8 (c.toNat:Int)] W1 fun e w'=>e=.returned (.tuple #[.int .i64 0,.bool false])/\Below W1.heap.size W1 w'):=hME;have HDG:Hid (∀ W,Tabs W->Calls Tryz.prog 202 #[.int .u8 (c.toNat:Int)] W fun e w'=>e=.returned (.int .i64 (k:Int))/\Below W.heap.size W w'):=fun W hT=>by rw[hk];exact digitsOf_any c W hT
 clear hME hm hmn hk;have e4:(mk m).extract 1 m.length=mk t:=by rw[ht.out];exact ext_drop m 1
 have HNU:Hid (∀ W,Calls Tryz.prog 203 #[.string (mk t),.int .i64 (k:Int)] W fun e w'=>e=.returned (.tuple #[.int .i64 n,.int .i64 0])/\W=w'):=fun W=>by
  have q:=numberOf_any t k W hk8 (by rw[ht.out,List.length_drop];omega);rw[hX.out]at q;exact q
 clear hX ht;go_wp2_with (first | (go_at_call 201;refine HME.out.mono ?_;rintro e W2 ⟨rfl,hb2⟩) | (go_at_call 202;refine(HDG.out _ (HT1.out.later hb2)).mono ?_;rintro e W3 ⟨rfl,hb3⟩;have c2:=(HR1.out.later (hb2.trans (hb3.mono hb2.size))).s;have c3:=(HR1.out.later (hb2.trans (hb3.mono hb2.size))).at_) | (go_at_call 203;refine(HNU.out _).mono ?_;rintro e w' ⟨rfl,rfl⟩));have HC3:Hid (Cel B b w W3):=(HC1.out.below hBw hlt hb2).below hBw hlt hb3;have HR3:Hid (Rd B b l p out W3):=HR1.out.later (hb2.trans (hb3.mono hb2.size));clear HME HC1 HR1 HT1 hb2 hb3 c2 c3 HDG HNU;refine(putSign_any embR n out HR3.out ho (by have:=HC3.out.sz;omega)).mono ?_;rintro e W5 ⟨rfl,hR5,hb5,hk5⟩;rw[HS.out];have q5:Rd B b l p (out++sgb n) W5:=hR5;have c3:=q5.at_;have HFI:Hid (∀ W2,Below W5.heap.size W5 W2->Cel B b w W2):=fun W2 hb=>(HC3.out.step hlt ⟨hb5,hk5⟩).below hBw hlt hb
 clear hR5 hb5 hk5 HR3 HC3 q5;go_wp2_with (first | (go_at_call 154;refine(fault_any _ _ c3).mono ?_;rintro e W4 ⟨rfl,hb4⟩;have HC4:Hid (Cel B b w W4):=HFI.out W4 hb4;obtain⟨d0,d1,d2,d3⟩:=HC4.out.facts;clear hb4));refine bodyPost_ret (v:=.agg #[.int .i64 3,.int .i64 (p:Int)]) (by simp[results,Tryz.results179,go_sem,d0,d1]) rfl ?_;exact⟨HC4.out.fin hBw _ _,fun h=>by simp at h,fun h=>by simp at h,fun _=>rfl⟩
set_option maxHeartbeats 1000000 in
theorem esc_num (w:World) (h:Rd B b l p out w) (hp:p<l.length) (hl:l.length<=140737488351232) (ho:out.length+4<=140737488355328) (hBw:B<=w.heap.size) (hT:Tabs w) (hB2:7<=B) (m:List UInt8) (hm:Hid (m=l.drop (p+1))) (hm1:1<=m.length) (c:UInt8) (hg:∀ h,(mk m)[0]'h=c) (hm2:m.length<=140737488351232) (hmn:mnt c=none) (k:Nat) (hk:k=dgs c) (hk0:k≠0) (hk8:k<=8) (n:Int) (t:List UInt8) (ht:Hid (t=m.drop 1)) (hX:Hid (hexR k t 0=(n,0))) (HS:Hid (sgn n=true)) (hkl:k+1<=m.length) :
  Calls Tryz.prog 179 #[.pointer (some ⟨b,0,none⟩)] w fun e w'=>EscRes B b l p out w (n,2+k,0) e w':=by
 have hlt:=h.lt;have hB:=h.base;have hsz:=mk_size l;obtain⟨W,hW⟩:∃ W,w.alloc (.cells #[.int .i64 0,.int .i64 0] 32)=W:=⟨_,rfl⟩;have hbW:Below w.heap.size w W:=by rw[<-hW];exact below_alloc _ _
 have HC:Hid (Cel B b w W):=by rw[<-hW];exact Cel.new B b w hBw
 have hRW:Rd B b l p out W:=h.later hbW;have HT:Hid (Tabs W):=hT.later hbW;have c2:=hRW.s;have c3:=hRW.at_;have HR:Hid (Rd B b l p out W):=hRW;clear hRW hbW h hT;go_enter Tryz.func179,Tryz.ntmps179;go_wp2;go_quiet (fail);rw[ext_drop];obtain⟨W1,hW1⟩:∃ W1,W1=W.drewN nq:=⟨_,rfl⟩;have HC1:Hid (Cel B b w W1):=by rw[hW1];exact HC.out.below hBw hlt (below_drewN (Below.refl _ _) nq)
 have HR1:Hid (Rd B b l p out W1):=by rw[hW1];exact HR.out.later (below_drewN (Below.refl _ _) nq)
 have HT1:Hid (Tabs W1):=by rw[hW1];exact HT.out.later (below_drewN (Below.refl _ _) nq)
 rw[<-hW1];clear hW1 HR HC HT c2 c3 hW hsz;clear W;have s1:=HC1.out.sz;rw[<-hm.out];have hmz:=mk_size m;have hq:((mk m).toList==[])=false:=by rw[ByteArray.toList_eq,mk_data];cases m;simp at hm1;simp
 have hq0:((k:Int)==0)=false:=by simp;omega
 have hME:=meant_any c W1 HT1.out;rw[hmn]at hME;have HME:Hid (Calls Tryz.prog 201 #[.int .u8 (c.toNat:Int)] W1 fun e w'=>e=.returned (.tuple #[.int .i64 0,.bool false])/\Below W1.heap.size W1 w'):=hME;have HDG:Hid (∀ W,Tabs W->Calls Tryz.prog 202 #[.int .u8 (c.toNat:Int)] W fun e w'=>e=.returned (.int .i64 (k:Int))/\Below W.heap.size W w'):=fun W hT=>by rw[hk];exact digitsOf_any c W hT
 clear hME hm hmn hk;have e4:(mk m).extract 1 m.length=mk t:=by rw[ht.out];exact ext_drop m 1
 have HNU:Hid (∀ W,Calls Tryz.prog 203 #[.string (mk t),.int .i64 (k:Int)] W fun e w'=>e=.returned (.tuple #[.int .i64 n,.int .i64 0])/\W=w'):=fun W=>by
  have q:=numberOf_any t k W hk8 (by rw[ht.out,List.length_drop];omega);rw[hX.out]at q;exact q
 clear hX ht;go_wp2_with (first | (go_at_call 201;refine HME.out.mono ?_;rintro e W2 ⟨rfl,hb2⟩) | (go_at_call 202;refine(HDG.out _ (HT1.out.later hb2)).mono ?_;rintro e W3 ⟨rfl,hb3⟩;have c2:=(HR1.out.later (hb2.trans (hb3.mono hb2.size))).s;have c3:=(HR1.out.later (hb2.trans (hb3.mono hb2.size))).at_) | (go_at_call 203;refine(HNU.out _).mono ?_;rintro e w' ⟨rfl,rfl⟩));have HC2:Hid (Cel B b w W3):=(HC1.out.below hBw hlt hb2).below hBw hlt hb3;have HR2:Hid (Rd B b l p out W3):=HR1.out.later (hb2.trans (hb3.mono hb2.size));clear HME HC1 HR1 HT1 hb2 hb3 c2 c3 HDG HNU;refine(putSign_any embR n out HR2.out ho (by have:=HC2.out.sz;omega)).mono ?_;rintro e W5 ⟨rfl,hR5,hb5,hk5⟩;rw[HS.out]
 have HR5:Hid (Rd B b l p (out++u8s (byt n)) W5):=by
  have q:Rd B b l p (out++sgb n) W5:=hR5;unfold sgb at q;rw[if_pos HS.out]at q;exact q
 have HC5:Hid (Cel B b w W5):=HC2.out.step hlt ⟨hb5,hk5⟩;obtain⟨W4,hW4⟩:∃ W4,W5.setCell ⟨b,3,none⟩ (.int .i64 ((p+(2+k):Nat):Int))=W4:=⟨_,rfl⟩;have HR4:Hid (Rd B b l (p+(2+k)) (out++u8s (byt n)) W4):=by rw[<-hW4];exact HR5.out.set _
 have HC4:Hid (Cel B b w W4):=by rw[<-hW4];exact HC5.out.set hB hlt 3 _
 rw[show ((p+(2+k):Nat):Int)=(p:Int)+(2+(k:Int)) by omega]at hW4;have c3:=HR5.out.at_;have z3:=HR5.out.fz 3;obtain⟨d0,d1,d2,d3⟩:=HC4.out.facts;clear hR5 hb5 hk5 HR2 HC2 HR5 HC5;go_wp2;refine bodyPost_ret (v:=.agg #[.int .i64 0,.int .i64 0]) (by simp[results,Tryz.results179,go_sem,d0,d1]) rfl ?_;exact⟨HC4.out.fin hBw _ _,fun _=>⟨rfl,HR4.out.fault2 HC4.out.sh (by omega) _ _⟩,fun h=>by simp at h,fun h=>by simp at h⟩
end Quo
end Go.Proofs.YtalijhclfppohaaGreatDoor
