/- . -/
import Derived.Test.YtidhpmcmbooaoaaGreatDoorR20QuoteDig
import Derived.BigQuiet
import Derived.Deep.QuietTactic
set_option linter.unusedSimpArgs false
set_option linter.unusedVariables false
set_option maxRecDepth 100000
namespace Go.Proofs.YtidhpmcmbooaoaaGreatDoor
namespace Quo
open Utf Rws
open Go.RowKit
def Rd (B b:Nat) (l:List UInt8) (p:Nat) (out:List UInt8) (w:World):Prop:=Bld 176 B b [.string (mk l),.int .i64 (p:Int)] (Lib.byteCells out) w
def Fr (B b:Nat) (w w':World):Prop:=Below B w w'/\Lib.OthersKept 5 (some b) w w'
variable {B b:Nat} {l out:List UInt8} {p:Nat} {w w1 w2:World}
theorem Fr.trans (h:Fr B b w w1) (k:Fr B b w1 w2):Fr B b w w2:=⟨h.1.trans k.1,h.2.trans k.2⟩
theorem Fr.of (h:Below w.heap.size w w1) (hB:B<=w.heap.size):Fr B b w w1:=⟨h.mono hB,kept_of_below h⟩
theorem Fr.refl:Fr B b w w:=⟨Below.refl _ _,Lib.OthersKept.refl _ _ _⟩
theorem Fr.set (h:Fr B b w w1) (hB:B<=b) (i:Nat) (x:Value):Fr B b w (w1.setCell ⟨b,i,none⟩ x):=⟨h.1.setCell (p:=⟨b,i,none⟩) hB _,h.2.setCell ⟨b,i,none⟩ rfl _⟩
theorem Rd.s (h:Rd B b l p out w):w.cell? ⟨b,2,none⟩=some (.string (mk l)):=Bld.cell h 0
theorem Rd.at_ (h:Rd B b l p out w):w.cell? ⟨b,3,none⟩=some (.int .i64 (p:Int)):=Bld.cell h 1
theorem Rd.fz (h:Rd B b l p out w) (i:Nat):w.frozen? ⟨b,i,none⟩=false:=Bld.frozen h i
theorem Rd.lt (h:Rd B b l p out w):b<w.heap.size:=Bld.lt h
theorem Rd.base (h:Rd B b l p out w):B<=b:=by rcases h with ⟨h,_⟩ | ⟨h,_⟩<;>exact h
theorem Rd.set (h:Rd B b l p out w) (q:Nat):Rd B b l q out (w.setCell ⟨b,3,none⟩ (.int .i64 (q:Int))):=Bld.tail h 1 (.int .i64 (q:Int))
theorem Rd.later (h:Rd B b l p out w) (hb:Below w.heap.size w w1):Rd B b l p out w1:=Bld.later h hb
theorem below_alloc (w:World) (o:Obj):Below w.heap.size w (w.alloc o):=(Below.refl _ _).alloc (Nat.le_refl _) _
theorem Fr.keep (h:Fr B b w w1) {k:Nat} {o:Obj} (hk:w.heap[k]?=some o) (hne:k≠b) (ho:∀ c fz,o≠.cells c 5 fz):w1.heap[k]?=some o:=h.2 k o hk (by simpa using hne) ho
def Sh (w:World) (k:Nat) (t:TypeId):Prop:=∃ cs fz,w.heap[k]?=some (.cells cs t fz)
theorem Sh.set {k:Nat} {t:TypeId} (h:Sh w k t) (a:Addr) (x:Value):Sh (w.setCell a x) k t:=by
 obtain⟨cs,fz,h⟩:=h;by_cases e:k=a.block
 ·subst e;unfold Sh;simp[World.setCell,Array.getElem?_modify,h]
 ·exact⟨cs,fz,(Below.heap_setCell _ _ _ _ (fun q=>e q)).trans h⟩
theorem BAt.other {T t:TypeId} {q:Value} {tl bs:List Value} (h:BAt T B b q tl bs w) {k:Nat} (hk:Sh w k t) (ht:t≠5) (hne:k≠b) (i:Nat) (x:Value):BAt T B b q tl bs (w.setCell ⟨k,i,none⟩ x):=by
 obtain⟨hB,v,hb,hown,hv,h0⟩:=h;obtain⟨cs,fz,hk⟩:=hk;refine⟨hB,v,(Below.heap_setCell _ _ _ _ (fun e=>hne e.symm)).trans hb,?_,hv,h0⟩;exact hown.kept (row:=some k) ⟨rfl,rfl,rfl,by simp[World.setCell],fun j _ hj=>Below.heap_setCell _ _ _ _ (fun e=>hj (by simp[e]))⟩ (Or.inr (Lib.ownBlock_neF hown hk ht))
theorem Bld.other {T t:TypeId} {tl bs:List Value} (h:Bld T B b tl bs w) {k:Nat} (hk:Sh w k t) (ht:t≠5) (hne:k≠b) (i:Nat) (x:Value):Bld T B b tl bs (w.setCell ⟨k,i,none⟩ x) :=
 h.elim (fun y=>.inl (y.other hk ht hne i x)) (fun y=>.inr (y.other hk ht hne i x))
theorem Rd.fault2 (h:Rd B b l p out w) {k:Nat} (hk:Sh w k 33) (hne:k≠b) (x y:Value):Rd B b l p out ((w.setCell ⟨k,0,none⟩ x).setCell ⟨k,1,none⟩ y) :=
 Bld.other (Bld.other h hk (by decide) hne 0 x) (hk.set _ _) (by decide) hne 1 y
theorem Fr.new (h:Fr B b w w1) {k:Nat} (hB:B<=k) (hk:w.heap.size<=k) (i:Nat) (x:Value):Fr B b w (w1.setCell ⟨k,i,none⟩ x):=by
 refine⟨h.1.setCell (p:=⟨k,i,none⟩) hB _,fun j o hj hb ho=> ?_⟩;have hlt:j<w.heap.size:=(Array.getElem?_eq_some_iff.1 hj).1;rw[Below.heap_setCell _ _ _ _ (fun e=>by simp only at e;omega)];exact h.2 j o hj hb ho
theorem Fr.fault2 (h:Fr B b w w1) {k:Nat} (hB:B<=k) (hk:w.heap.size<=k) (x y:Value):Fr B b w ((w1.setCell ⟨k,0,none⟩ x).setCell ⟨k,1,none⟩ y):=(h.new hB hk 0 x).new hB hk 1 y
theorem fault_any (y:Int) (w:World) (h:w.cell? ⟨b,3,none⟩=some (.int .i64 (p:Int))) :
  Calls Tryz.prog 154 #[.pointer (some ⟨b,0,none⟩),.int .i64 y] w fun e w'=>e=.returned (.agg #[.int .i64 y,.int .i64 (p:Int)])/\Below w.heap.size w w':=by
 have hlt:b<w.heap.size:=World.block_lt_of_cell? w _ h;have h2:(w.alloc (.cells #[.int .i64 0,.int .i64 0] 33)).cell? ⟨b,3,none⟩=some (.int .i64 (p:Int)):=((below_alloc w _).cell (p:=⟨b,3,none⟩) hlt).trans h;go_enter Tryz.func154,Tryz.ntmps154;go_wp2;refine bodyPost_ret (v:=.agg #[.int .i64 y,.int .i64 (p:Int)]) (by simp[results,Tryz.results154,go_sem]) rfl ⟨rfl,?_⟩;exact(Below.refl _ _).alloc (Nat.le_refl _) _
theorem end_any (l:List UInt8) (w:World) (h:w.cell? ⟨b,2,none⟩=some (.string (mk l))) :
  Calls Tryz.prog 180 #[.pointer (some ⟨b,0,none⟩)] w fun e w'=>e=.returned (.agg #[.int .i64 4,.int .i64 (l.length:Int)])/\Below w.heap.size w w':=by
 have hlt:b<w.heap.size:=World.block_lt_of_cell? w _ h;have hsz:=mk_size l;have h2:(w.alloc (.cells #[.int .i64 0,.int .i64 0] 33)).cell? ⟨b,2,none⟩=some (.string (mk l)):=((below_alloc w _).cell (p:=⟨b,2,none⟩) hlt).trans h;go_enter Tryz.func180,Tryz.ntmps180;go_wp2;refine bodyPost_ret (v:=.agg #[.int .i64 4,.int .i64 (l.length:Int)]) (by simp[results,Tryz.results180,go_sem,hsz]) rfl ⟨rfl,?_⟩;exact(Below.refl _ _).alloc (Nat.le_refl _) _
theorem take_sign {l:List UInt8} (h:may (fst l).1=true):sgb (fst l).1=l.take (fk l):=by
 have h0:=may_fst h;obtain⟨h1,h2,h3⟩:=fst_sound l h0;unfold sgb;rw[if_pos h1];have e:fk l=(u8s (byt (fst l).1)).length:=by unfold fk;rw[h2,u8s_len];omega
 have q:=congrArg (List.take (u8s (byt (fst l).1)).length) h3;rw[List.take_left]at q;rw[e];exact q.symm
set_option maxHeartbeats 1000000 in
theorem sign_any (w:World) (h:Rd B b l p out w) (hp:p<l.length) (hl:l.length<=140737488351232) (ho:out.length+4<=140737488355328) (hBw:B<=w.heap.size) :
  Calls Tryz.prog 179 #[.pointer (some ⟨b,0,none⟩)] w fun e w' =>
   (may (fst (l.drop p)).1=true->e=.returned (.agg #[.int .i64 0,.int .i64 0])/\Rd B b l (p+fk (l.drop p)) (out++(l.drop p).take (fk (l.drop p))) w'/\Fr B b w w') /\
   (may (fst (l.drop p)).1=false->e=.returned (.agg #[.int .i64 8,.int .i64 (p:Int)])/\Fr B b w w'):=by
 have hlt:=h.lt;have hB:=h.base;have hs':(mk l).size<=maxLen:=by rw[mk_size];unfold maxLen;omega
 have hsz:=mk_size l;have hne:l.drop p≠[]:=by intro e;have:=congrArg List.length e;rw[List.length_drop]at this;simp at this;omega
 have hf:=fk_pos _ hne;rw[List.length_drop]at hf;obtain⟨f1,f2,f3,f4⟩:=hf;have hts:may (fst (l.drop p)).1=true->sgb (fst (l.drop p)).1=(l.drop p).take (fk (l.drop p)):=take_sign;obtain⟨n,hn⟩:∃ n,n=(fst (l.drop p)).1:=⟨_,rfl⟩;obtain⟨k,hk⟩:∃ k,k=fk (l.drop p):=⟨_,rfl⟩
 have hF:Hid (∀ w,Calls Tryz.prog 89 #[.string ((mk l).extract p (mk l).size)] w fun e w'=>e=.returned (.tuple #[.int .i64 n,.int .i64 (k:Int)])/\w=w'):=fun w=>by
  have h:=firstAt_any (mk l) p w hs';rw[mk_data,<-f4,<-hn,<-hk]at h;exact h
 rw[<-hk]at f1 f2 f3 hts |-;rw[<-hn]at hts |-;clear f4 hn hk hne
 -- behind the fault's cell
 obtain⟨W,hW⟩:∃ W,w.alloc (.cells #[.int .i64 0,.int .i64 0] 33)=W:=⟨_,rfl⟩;have hbW:Below w.heap.size w W:=by rw[<-hW];exact below_alloc _ _
 have hRW:Rd B b l p out W:=h.later hbW;have hcW:W.heap[w.heap.size]?=some (.cells #[.int .i64 0,.int .i64 0] 33 (0,0)):=by rw[<-hW];exact heap_alloc_new w _
 have c2:=hRW.s;have c3:=hRW.at_;have HR:Hid (Rd B b l p out W):=hRW;have HBW:Hid (Below w.heap.size w W):=hbW;have HCW:Hid (W.heap[w.heap.size]?=some (.cells #[.int .i64 0,.int .i64 0] 33 (0,0))):=hcW;clear hRW hbW hcW h;go_enter Tryz.func179,Tryz.ntmps179;go_wp2;go_quiet ((go_at_call 89;exact(hF.out _).mono (fun _ _ ⟨he,hw⟩=>⟨he,_,hw.symm⟩)));obtain⟨W1,hW1⟩:∃ W1,W1=W.drewN nq:=⟨_,rfl⟩;have HB1:Hid (Below w.heap.size w W1):=by rw[hW1];exact below_drewN HBW.out nq
 have HR1:Hid (Rd B b l p out W1):=by rw[hW1];exact HR.out.later (below_drewN (Below.refl _ _) nq)
 have HC1:Hid (W1.heap[w.heap.size]?=some (.cells #[.int .i64 0,.int .i64 0] 33 (0,0))):=by rw[hW1];exact HCW.out
 rw[<-hW1];clear hW1 HR HBW HCW c2 c3 hW hF;clear W;have s1:=HB1.out.size;have c3:=HR1.out.at_;cases hm:may n
 ·have HFI:Hid (∀ W2,Below W1.heap.size W1 W2->W2.cell? ⟨w.heap.size,0,none⟩=some (.int .i64 0)/\W2.cell? ⟨w.heap.size,1,none⟩=some (.int .i64 0)/\W2.frozen? ⟨w.heap.size,0,none⟩=false/\W2.frozen? ⟨w.heap.size,1,none⟩=false/\Below w.heap.size w W2):=fun W2 hb=>by
   have hk:W2.heap[w.heap.size]?=some (.cells #[.int .i64 0,.int .i64 0] 33 (0,0)):=(hb.block _ (Array.getElem?_eq_some_iff.1 HC1.out).1).trans HC1.out;exact⟨by rw[Lib.cell_of_heap hk];rfl,by rw[Lib.cell_of_heap hk];rfl,Lib.frozen_of_heap hk 0,Lib.frozen_of_heap hk 1,HB1.out.trans (hb.mono s1)⟩
  clear hts HR1 HC1 HB1;go_wp2_with (first | (go_at_call 90;refine(stands_any _ _).mono ?_;rintro e w' ⟨rfl,rfl⟩) | (go_at_call 154;refine(fault_any _ _ c3).mono ?_;rintro e W2 ⟨rfl,hb2⟩;obtain⟨d0,d1,d2,d3,d4⟩:=HFI.out W2 hb2;clear hb2));refine bodyPost_ret (v:=.agg #[.int .i64 8,.int .i64 (p:Int)]) (by simp[results,Tryz.results179,go_sem,d0,d1]) rfl ?_;refine⟨fun h=>absurd h (by rw[hm];decide),fun _=>⟨rfl,?_⟩⟩;exact Fr.of ((d4.setCell (p:=⟨w.heap.size,0,none⟩) (Nat.le_refl _) _).setCell (p:=⟨w.heap.size,1,none⟩) (Nat.le_refl _) _) hBw
 ·have HTS:Hid (sgb n=List.take k (List.drop p l)):=hts hm;clear hts c3;go_wp2_with (first | (go_at_call 90;refine(stands_any _ _).mono ?_;rintro e w' ⟨rfl,rfl⟩));refine(putSign_any embR n out HR1.out ho (by omega)).mono ?_;rintro e W2 ⟨rfl,hR2,hb2,hk2⟩;have HR2:Hid (Rd B b l p (out++sgb n) W2):=hR2;have HF2:Hid (Fr B b w W2):=(Fr.of HB1.out hBw).trans ⟨hb2,hk2⟩;have hC2:W2.heap[w.heap.size]?=some (.cells #[.int .i64 0,.int .i64 0] 33 (0,0)):=hk2 _ _ HC1.out (by simp;omega) (fun c fz h=>by cases h);have hR3:=HR2.out.set (p+k);obtain⟨W3,hW3⟩:∃ W3,W2.setCell ⟨b,3,none⟩ (.int .i64 ((p+k:Nat):Int))=W3:=⟨_,rfl⟩;have hC3:W3.heap[w.heap.size]?=some (.cells #[.int .i64 0,.int .i64 0] 33 (0,0)):=by rw[<-hW3,Below.heap_setCell _ _ _ _ (fun e=>by simp at e;omega)];exact hC2
  rw[hW3]at hR3;have HR3:Hid (Rd B b l (p+k) (out++sgb n) W3):=hR3;have HF3:Hid (Fr B b w W3):=by rw[<-hW3];exact HF2.out.set hB 3 _
  rw[Int.natCast_add]at hW3;have c3:=HR2.out.at_;have z3:=HR2.out.fz 3;have d0:W3.cell? ⟨w.heap.size,0,none⟩=some (.int .i64 0):=by rw[Lib.cell_of_heap hC3];rfl
  have d1:W3.cell? ⟨w.heap.size,1,none⟩=some (.int .i64 0):=by rw[Lib.cell_of_heap hC3];rfl
  have d2:W3.frozen? ⟨w.heap.size,0,none⟩=false:=Lib.frozen_of_heap hC3 0;have d3:W3.frozen? ⟨w.heap.size,1,none⟩=false:=Lib.frozen_of_heap hC3 1;have HS3:Hid (Sh W3 w.heap.size 33):=⟨_,_,hC3⟩;clear hR2 hb2 hk2 hR3 HR1 HB1 HC1 hC2 hC3;go_wp2;refine bodyPost_ret (v:=.agg #[.int .i64 0,.int .i64 0]) (by simp[results,Tryz.results179,go_sem,d0,d1]) rfl ?_;refine⟨fun _=>⟨rfl,?_,HF3.out.fault2 hBw (Nat.le_refl _) _ _⟩,fun h=>absurd h (by rw[hm];decide)⟩;rw[<-HTS.out];exact HR3.out.fault2 HS3.out (by omega) _ _
end Quo
end Go.Proofs.YtidhpmcmbooaoaaGreatDoor
