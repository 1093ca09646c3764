/- . -/
import Derived.Test.YtidhpmcmbooaoaaGreatDoorR21QuoteRd
import Derived.Test.YtidhpmcmbooaoaaGreatDoorR00UtfPlain
set_option linter.unusedSimpArgs false
set_option linter.unusedVariables false
set_option maxRecDepth 100000
namespace Go.Proofs.YtidhpmcmbooaoaaGreatDoor
namespace Quo
open Utf Rws
open Go.RowKit
theorem hexR_two:∀ (k:Nat) (l:List UInt8) (acc:Int),(hexR k l acc).2=0\/(hexR k l acc).2=3\/(hexR k l acc).2=4
 | 0,_,_=>.inl rfl
 | k+1,[],_=>.inr (.inr rfl)
 | k+1,c::r,acc=>by
  rw[hexR];split
  ·exact .inr (.inl rfl)
  ·exact hexR_two k r _
theorem mnt_esc {m:List UInt8} (h:2<=m.length) {n:Int} (hc:mnt (m.getD 1 0)=some n):escR m=(n,2,0):=by
 unfold escR;rw[if_neg (by omega)];generalize m.getD 1 0=c at *;unfold mnt at hc;by_cases h1:c=34
 ·rw[if_pos h1]at hc |-;cases hc;rfl
 rw[if_neg h1]at hc |-;by_cases h2:c=92
 ·rw[if_pos h2]at hc |-;cases hc;rfl
 rw[if_neg h2]at hc |-;by_cases h3:c=110
 ·rw[if_pos h3]at hc |-;cases hc;rfl
 rw[if_neg h3]at hc |-;by_cases h4:c=116
 ·rw[if_pos h4]at hc |-;cases hc;rfl
 rw[if_neg h4]at hc |-;by_cases h5:c=114
 ·rw[if_pos h5]at hc |-;cases hc;rfl
 rw[if_neg h5]at hc |-;by_cases h6:c=48
 ·rw[if_pos h6]at hc |-;cases hc;rfl
 rw[if_neg h6]at hc;cases hc
theorem mnt_sgn {c:UInt8} {n:Int} (hc:mnt c=some n):sgn n=true:=by
 unfold mnt at hc;by_cases h1:c=34
 ·rw[if_pos h1]at hc;cases hc;decide
 rw[if_neg h1]at hc;by_cases h2:c=92
 ·rw[if_pos h2]at hc;cases hc;decide
 rw[if_neg h2]at hc;by_cases h3:c=110
 ·rw[if_pos h3]at hc;cases hc;decide
 rw[if_neg h3]at hc;by_cases h4:c=116
 ·rw[if_pos h4]at hc;cases hc;decide
 rw[if_neg h4]at hc;by_cases h5:c=114
 ·rw[if_pos h5]at hc;cases hc;decide
 rw[if_neg h5]at hc;by_cases h6:c=48
 ·rw[if_pos h6]at hc;cases hc;decide
 rw[if_neg h6]at hc;cases hc
theorem dgs_esc {m:List UInt8} (h:2<=m.length) (hc:mnt (m.getD 1 0)=none):escR m=if dgs (m.getD 1 0)=0 then (0,0,3)else escH m (dgs (m.getD 1 0)):=by
 unfold escR;rw[if_neg (by omega)];generalize m.getD 1 0=c at *;unfold mnt at hc;by_cases h1:c=34
 ·rw[if_pos h1]at hc;cases hc
 rw[if_neg h1]at hc |-;by_cases h2:c=92
 ·rw[if_pos h2]at hc;cases hc
 rw[if_neg h2]at hc |-;by_cases h3:c=110
 ·rw[if_pos h3]at hc;cases hc
 rw[if_neg h3]at hc |-;by_cases h4:c=116
 ·rw[if_pos h4]at hc;cases hc
 rw[if_neg h4]at hc |-;by_cases h5:c=114
 ·rw[if_pos h5]at hc;cases hc
 rw[if_neg h5]at hc |-;by_cases h6:c=48
 ·rw[if_pos h6]at hc;cases hc
 rw[if_neg h6];unfold dgs;by_cases h7:c=120
 ·rw[if_pos h7,if_pos h7,if_neg (by decide)]
 rw[if_neg h7,if_neg h7];by_cases h8:c=117
 ·rw[if_pos h8,if_pos h8,if_neg (by decide)]
 rw[if_neg h8,if_neg h8];by_cases h9:c=85
 ·rw[if_pos h9,if_pos h9,if_neg (by decide)]
 rw[if_neg h9,if_neg h9,if_pos rfl]
theorem dgs_le (c:UInt8):dgs c<=8:=by
 unfold dgs;split
 ·decide
 split
 ·decide
 split<;>decide
variable {B b:Nat} {l out:List UInt8} {p:Nat} {w w1 w2:World}
def EscRes (B b:Nat) (l:List UInt8) (p:Nat) (out:List UInt8) (w:World) (r:Int × Nat × Nat) (e:Ending) (w':World):Prop :=
 Fr B b w w'/\(r.2.2=0->e=.returned (.agg #[.int .i64 0,.int .i64 0])/\Rd B b l (p+r.2.1) (out++u8s (byt r.1)) w') /\
 (r.2.2=4->e=.returned (.agg #[.int .i64 4,.int .i64 (l.length:Int)]))/\(r.2.2=3->e=.returned (.agg #[.int .i64 3,.int .i64 (p:Int)]))
structure Cel (B b:Nat) (w W:World):Prop where
 fr:Fr B b w W
 sz:w.heap.size<=W.heap.size
 cl:W.heap[w.heap.size]?=some (.cells #[.int .i64 0,.int .i64 0] 33 (0,0))
theorem Cel.facts {W:World} (h:Cel B b w W):W.cell? ⟨w.heap.size,0,none⟩=some (.int .i64 0)/\W.cell? ⟨w.heap.size,1,none⟩=some (.int .i64 0)/\W.frozen? ⟨w.heap.size,0,none⟩=false/\W.frozen? ⟨w.heap.size,1,none⟩=false :=
 ⟨by rw[Lib.cell_of_heap h.cl];rfl,by rw[Lib.cell_of_heap h.cl];rfl,Lib.frozen_of_heap h.cl 0,Lib.frozen_of_heap h.cl 1⟩
theorem Cel.step {W W2:World} (h:Cel B b w W) (hb:b<w.heap.size) (hf:Fr B b W W2):Cel B b w W2 :=
 ⟨h.fr.trans hf,Nat.le_trans h.sz hf.1.size,hf.2 _ _ h.cl (by simp;omega) (fun c fz e=>by cases e)⟩
theorem Cel.set {W:World} (h:Cel B b w W) (hB:B<=b) (hb:b<w.heap.size) (i:Nat) (x:Value):Cel B b w (W.setCell ⟨b,i,none⟩ x) :=
 h.step hb (Fr.refl.set hB i x)
theorem Cel.below {W W2:World} (h:Cel B b w W) (hB:B<=w.heap.size) (hb:b<w.heap.size) (hf:Below W.heap.size W W2):Cel B b w W2:=h.step hb (Fr.of hf (Nat.le_trans hB h.sz))
theorem Cel.sh {W:World} (h:Cel B b w W):Sh W w.heap.size 33:=⟨_,_,h.cl⟩
theorem Cel.new (B b:Nat) (w:World) (hB:B<=w.heap.size):Cel B b w (w.alloc (.cells #[.int .i64 0,.int .i64 0] 33)) :=
 ⟨Fr.of (below_alloc _ _) hB,by simp,heap_alloc_new w _⟩
theorem Cel.fin {W:World} (h:Cel B b w W) (hB:B<=w.heap.size) (x y:Value):Fr B b w ((W.setCell ⟨w.heap.size,0,none⟩ x).setCell ⟨w.heap.size,1,none⟩ y):=h.fr.fault2 hB (Nat.le_refl _) x y
theorem ext_drop (l:List UInt8) (q:Nat):(mk l).extract q l.length=mk (l.drop q):=by
 rw[mk_ext,List.take_of_length_le (by rw[List.length_drop];exact Nat.le_refl _)]
set_option maxHeartbeats 1000000 in
theorem esc_end (w:World) (h:Rd B b l p out w) (hp:p<l.length) (hl:l.length<=140737488351232) (ho:out.length+4<=140737488355328) (hBw:B<=w.heap.size) (hT:Tabs w) (hB2:2<=B) (m:List UInt8) (hm:Hid (m=l.drop (p+1))) (h0:m=[]) :
  Calls Tryz.prog 181 #[.pointer (some ⟨b,0,none⟩)] w fun e w'=>EscRes B b l p out w (0,0,4) e w':=by
 have hlt:=h.lt;have hB:=h.base;have hsz:=mk_size l;obtain⟨W,hW⟩:∃ W,w.alloc (.cells #[.int .i64 0,.int .i64 0] 33)=W:=⟨_,rfl⟩;have hbW:Below w.heap.size w W:=by rw[<-hW];exact below_alloc _ _
 have HC:Hid (Cel B b w W):=by rw[<-hW];exact Cel.new B b w hBw
 have hRW:Rd B b l p out W:=h.later hbW;have HT:Hid (Tabs W):=hT.later hbW;have c2:=hRW.s;have c3:=hRW.at_;have HR:Hid (Rd B b l p out W):=hRW;clear hRW hbW h hT;go_enter Tryz.func181,Tryz.ntmps181;go_wp2;go_quiet (fail);rw[ext_drop];obtain⟨W1,hW1⟩:∃ W1,W1=W.drewN nq:=⟨_,rfl⟩;have HC1:Hid (Cel B b w W1):=by rw[hW1];exact HC.out.below hBw hlt (below_drewN (Below.refl _ _) nq)
 have HR1:Hid (Rd B b l p out W1):=by rw[hW1];exact HR.out.later (below_drewN (Below.refl _ _) nq)
 have HT1:Hid (Tabs W1):=by rw[hW1];exact HT.out.later (below_drewN (Below.refl _ _) nq)
 rw[<-hW1];clear hW1 HR HC HT c2 c3 hW hsz;clear W;have s1:=HC1.out.sz;rw[<-hm.out];have hmz:=mk_size m;have hq:((mk m).toList==[])=true:=by rw[ByteArray.toList_eq,mk_data,h0];rfl
 have HFI:Hid (∀ W2,Below W1.heap.size W1 W2->Cel B b w W2):=fun W2 hb=>HC1.out.below hBw hlt hb
 have c2:=HR1.out.s;clear HC1 HR1 HT1 hm h0;go_wp2_with (first | (go_at_call 180;refine(end_any l _ c2).mono ?_;rintro e W2 ⟨rfl,hb2⟩;have HC2:Hid (Cel B b w W2):=HFI.out W2 hb2;obtain⟨d0,d1,d2,d3⟩:=HC2.out.facts;clear hb2));refine bodyPost_ret (v:=.agg #[.int .i64 4,.int .i64 (l.length:Int)]) (by simp[results,Tryz.results181,go_sem,d0,d1]) rfl ?_;exact⟨HC2.out.fin hBw _ _,fun h=>by simp at h,fun _=>rfl,fun h=>by simp at h⟩
set_option maxHeartbeats 1000000 in
theorem esc_short (w:World) (h:Rd B b l p out w) (hp:p<l.length) (hl:l.length<=140737488351232) (ho:out.length+4<=140737488355328) (hBw:B<=w.heap.size) (hT:Tabs w) (hB2:2<=B) (m:List UInt8) (hm:Hid (m=l.drop (p+1))) (hm1:1<=m.length) (c:UInt8) (hg:∀ h,(mk m)[0]'h=c) (hm2:m.length<=140737488351232) (n:Int) (hmn:mnt c=some n) :
  Calls Tryz.prog 181 #[.pointer (some ⟨b,0,none⟩)] w fun e w'=>EscRes B b l p out w (n,2,0) e w':=by
 have hlt:=h.lt;have hB:=h.base;have hsz:=mk_size l;obtain⟨W,hW⟩:∃ W,w.alloc (.cells #[.int .i64 0,.int .i64 0] 33)=W:=⟨_,rfl⟩;have hbW:Below w.heap.size w W:=by rw[<-hW];exact below_alloc _ _
 have HC:Hid (Cel B b w W):=by rw[<-hW];exact Cel.new B b w hBw
 have hRW:Rd B b l p out W:=h.later hbW;have HT:Hid (Tabs W):=hT.later hbW;have c2:=hRW.s;have c3:=hRW.at_;have HR:Hid (Rd B b l p out W):=hRW;clear hRW hbW h hT;go_enter Tryz.func181,Tryz.ntmps181;go_wp2;go_quiet (fail);rw[ext_drop];obtain⟨W1,hW1⟩:∃ W1,W1=W.drewN nq:=⟨_,rfl⟩;have HC1:Hid (Cel B b w W1):=by rw[hW1];exact HC.out.below hBw hlt (below_drewN (Below.refl _ _) nq)
 have HR1:Hid (Rd B b l p out W1):=by rw[hW1];exact HR.out.later (below_drewN (Below.refl _ _) nq)
 have HT1:Hid (Tabs W1):=by rw[hW1];exact HT.out.later (below_drewN (Below.refl _ _) nq)
 rw[<-hW1];clear hW1 HR HC HT c2 c3 hW hsz;clear W;have s1:=HC1.out.sz;rw[<-hm.out];have hmz:=mk_size m;have hq:((mk m).toList==[])=false:=by rw[ByteArray.toList_eq,mk_data];cases m;simp at hm1;simp
 have hME:=meant_any c W1 HT1.out;rw[hmn]at hME;have HS:Hid (sgn n=true):=mnt_sgn hmn;have HME:Hid (Calls Tryz.prog 198 #[.int .u8 (c.toNat:Int)] W1 fun e w'=>e=.returned (.tuple #[.int .i64 n,.bool true])/\Below W1.heap.size W1 w'):=hME;clear hME hm hmn;go_wp2_with (first | (go_at_call 198;refine HME.out.mono ?_;rintro e W2 ⟨rfl,hb2⟩));have HC2:Hid (Cel B b w W2):=HC1.out.below hBw hlt hb2;have HR2:Hid (Rd B b l p out W2):=HR1.out.later hb2;clear HME HC1 HR1 HT1 hb2;refine(putSign_any embR n out HR2.out ho (by have:=HC2.out.sz;omega)).mono ?_;rintro e W3 ⟨rfl,hR3,hb3,hk3⟩;rw[HS.out]
 have HR3:Hid (Rd B b l p (out++u8s (byt n)) W3):=by
  have q:Rd B b l p (out++sgb n) W3:=hR3;unfold sgb at q;rw[if_pos HS.out]at q;exact q
 have HC3:Hid (Cel B b w W3):=HC2.out.step hlt ⟨hb3,hk3⟩;obtain⟨W4,hW4⟩:∃ W4,W3.setCell ⟨b,3,none⟩ (.int .i64 ((p+2:Nat):Int))=W4:=⟨_,rfl⟩;have HR4:Hid (Rd B b l (p+2) (out++u8s (byt n)) W4):=by rw[<-hW4];exact HR3.out.set _
 have HC4:Hid (Cel B b w W4):=by rw[<-hW4];exact HC3.out.set hB hlt 3 _
 rw[show ((p+2:Nat):Int)=(p:Int)+2 by omega]at hW4;have c3:=HR3.out.at_;have z3:=HR3.out.fz 3;obtain⟨d0,d1,d2,d3⟩:=HC4.out.facts;clear hR3 hb3 hk3 HR2 HC2 HR3 HC3;go_wp2;refine bodyPost_ret (v:=.agg #[.int .i64 0,.int .i64 0]) (by simp[results,Tryz.results181,go_sem,d0,d1]) rfl ?_;exact⟨HC4.out.fin hBw _ _,fun _=>⟨rfl,HR4.out.fault2 HC4.out.sh (by omega) _ _⟩,fun h=>by simp at h,fun h=>by simp at h⟩
set_option maxHeartbeats 1000000 in
theorem esc_form (w:World) (h:Rd B b l p out w) (hp:p<l.length) (hl:l.length<=140737488351232) (ho:out.length+4<=140737488355328) (hBw:B<=w.heap.size) (hT:Tabs w) (hB2:2<=B) (m:List UInt8) (hm:Hid (m=l.drop (p+1))) (hm1:1<=m.length) (c:UInt8) (hg:∀ h,(mk m)[0]'h=c) (hm2:m.length<=140737488351232) (hmn:mnt c=none) (k:Nat) (hk:k=dgs c) (hk0:k=0) :
  Calls Tryz.prog 181 #[.pointer (some ⟨b,0,none⟩)] w fun e w'=>EscRes B b l p out w (0,0,3) e w':=by
 have hlt:=h.lt;have hB:=h.base;have hsz:=mk_size l;obtain⟨W,hW⟩:∃ W,w.alloc (.cells #[.int .i64 0,.int .i64 0] 33)=W:=⟨_,rfl⟩;have hbW:Below w.heap.size w W:=by rw[<-hW];exact below_alloc _ _
 have HC:Hid (Cel B b w W):=by rw[<-hW];exact Cel.new B b w hBw
 have hRW:Rd B b l p out W:=h.later hbW;have HT:Hid (Tabs W):=hT.later hbW;have c2:=hRW.s;have c3:=hRW.at_;have HR:Hid (Rd B b l p out W):=hRW;clear hRW hbW h hT;go_enter Tryz.func181,Tryz.ntmps181;go_wp2;go_quiet (fail);rw[ext_drop];obtain⟨W1,hW1⟩:∃ W1,W1=W.drewN nq:=⟨_,rfl⟩;have HC1:Hid (Cel B b w W1):=by rw[hW1];exact HC.out.below hBw hlt (below_drewN (Below.refl _ _) nq)
 have HR1:Hid (Rd B b l p out W1):=by rw[hW1];exact HR.out.later (below_drewN (Below.refl _ _) nq)
 have HT1:Hid (Tabs W1):=by rw[hW1];exact HT.out.later (below_drewN (Below.refl _ _) nq)
 rw[<-hW1];clear hW1 HR HC HT c2 c3 hW hsz;clear W;have s1:=HC1.out.sz;rw[<-hm.out];have hmz:=mk_size m;have hq:((mk m).toList==[])=false:=by rw[ByteArray.toList_eq,mk_data];cases m;simp at hm1;simp
 have hq0:((k:Int)==0)=true:=by simp;omega
 have hME:=meant_any c W1 HT1.out;rw[hmn]at hME;have HME:Hid (Calls Tryz.prog 198 #[.int .u8 (c.toNat:Int)] W1 fun e w'=>e=.returned (.tuple #[.int .i64 0,.bool false])/\Below W1.heap.size W1 w'):=hME;have HDG:Hid (∀ W,Tabs W->Calls Tryz.prog 199 #[.int .u8 (c.toNat:Int)] W fun e w'=>e=.returned (.int .i64 (k:Int))/\Below W.heap.size W w'):=fun W hT=>by rw[hk];exact digitsOf_any c W hT
 clear hME hm hmn hk;clear hk0;go_wp2_with (first | (go_at_call 198;refine HME.out.mono ?_;rintro e W2 ⟨rfl,hb2⟩) | (go_at_call 199;refine(HDG.out _ (HT1.out.later hb2)).mono ?_;rintro e W3 ⟨rfl,hb3⟩;have c2:=(HR1.out.later (hb2.trans (hb3.mono hb2.size))).s;have c3:=(HR1.out.later (hb2.trans (hb3.mono hb2.size))).at_) | (go_at_call 154;refine(fault_any _ _ c3).mono ?_;rintro e W4 ⟨rfl,hb4⟩;have HC4:Hid (Cel B b w W4):=((HC1.out.below hBw hlt hb2).below hBw hlt hb3).below hBw hlt hb4;obtain⟨d0,d1,d2,d3⟩:=HC4.out.facts;clear hb2 hb3 hb4));refine bodyPost_ret (v:=.agg #[.int .i64 3,.int .i64 (p:Int)]) (by simp[results,Tryz.results181,go_sem,d0,d1]) rfl ?_;exact⟨HC4.out.fin hBw _ _,fun h=>by simp at h,fun h=>by simp at h,fun _=>rfl⟩
end Quo
namespace Quo
open Utf Rws
open Go.RowKit
variable {B b:Nat} {l out:List UInt8} {p:Nat} {w w1 w2:World}
set_option maxHeartbeats 1000000 in
theorem esc_digit (w:World) (h:Rd B b l p out w) (hp:p<l.length) (hl:l.length<=140737488351232) (ho:out.length+4<=140737488355328) (hBw:B<=w.heap.size) (hT:Tabs w) (hB2:2<=B) (m:List UInt8) (hm:Hid (m=l.drop (p+1))) (hm1:1<=m.length) (c:UInt8) (hg:∀ h,(mk m)[0]'h=c) (hm2:m.length<=140737488351232) (hmn:mnt c=none) (k:Nat) (hk:k=dgs c) (hk0:k≠0) (hk8:k<=8) (n:Int) (t:List UInt8) (ht:Hid (t=m.drop 1)) (hX:Hid (hexR k t 0=(n,3))) :
  Calls Tryz.prog 181 #[.pointer (some ⟨b,0,none⟩)] w fun e w'=>EscRes B b l p out w (0,0,3) e w':=by
 have hlt:=h.lt;have hB:=h.base;have hsz:=mk_size l;obtain⟨W,hW⟩:∃ W,w.alloc (.cells #[.int .i64 0,.int .i64 0] 33)=W:=⟨_,rfl⟩;have hbW:Below w.heap.size w W:=by rw[<-hW];exact below_alloc _ _
 have HC:Hid (Cel B b w W):=by rw[<-hW];exact Cel.new B b w hBw
 have hRW:Rd B b l p out W:=h.later hbW;have HT:Hid (Tabs W):=hT.later hbW;have c2:=hRW.s;have c3:=hRW.at_;have HR:Hid (Rd B b l p out W):=hRW;clear hRW hbW h hT;go_enter Tryz.func181,Tryz.ntmps181;go_wp2;go_quiet (fail);rw[ext_drop];obtain⟨W1,hW1⟩:∃ W1,W1=W.drewN nq:=⟨_,rfl⟩;have HC1:Hid (Cel B b w W1):=by rw[hW1];exact HC.out.below hBw hlt (below_drewN (Below.refl _ _) nq)
 have HR1:Hid (Rd B b l p out W1):=by rw[hW1];exact HR.out.later (below_drewN (Below.refl _ _) nq)
 have HT1:Hid (Tabs W1):=by rw[hW1];exact HT.out.later (below_drewN (Below.refl _ _) nq)
 rw[<-hW1];clear hW1 HR HC HT c2 c3 hW hsz;clear W;have s1:=HC1.out.sz;rw[<-hm.out];have hmz:=mk_size m;have hq:((mk m).toList==[])=false:=by rw[ByteArray.toList_eq,mk_data];cases m;simp at hm1;simp
 have hq0:((k:Int)==0)=false:=by simp;omega
 have hME:=meant_any c W1 HT1.out;rw[hmn]at hME;have HME:Hid (Calls Tryz.prog 198 #[.int .u8 (c.toNat:Int)] W1 fun e w'=>e=.returned (.tuple #[.int .i64 0,.bool false])/\Below W1.heap.size W1 w'):=hME;have HDG:Hid (∀ W,Tabs W->Calls Tryz.prog 199 #[.int .u8 (c.toNat:Int)] W fun e w'=>e=.returned (.int .i64 (k:Int))/\Below W.heap.size W w'):=fun W hT=>by rw[hk];exact digitsOf_any c W hT
 clear hME hm hmn hk;have e4:(mk m).extract 1 m.length=mk t:=by rw[ht.out];exact ext_drop m 1
 have HNU:Hid (∀ W,Calls Tryz.prog 200 #[.string (mk t),.int .i64 (k:Int)] W fun e w'=>e=.returned (.tuple #[.int .i64 n,.int .i64 3])/\W=w'):=fun W=>by
  have q:=numberOf_any t k W hk8 (by rw[ht.out,List.length_drop];omega);rw[hX.out]at q;exact q
 clear hX ht;go_wp2_with (first | (go_at_call 198;refine HME.out.mono ?_;rintro e W2 ⟨rfl,hb2⟩) | (go_at_call 199;refine(HDG.out _ (HT1.out.later hb2)).mono ?_;rintro e W3 ⟨rfl,hb3⟩;have c2:=(HR1.out.later (hb2.trans (hb3.mono hb2.size))).s;have c3:=(HR1.out.later (hb2.trans (hb3.mono hb2.size))).at_) | (go_at_call 200;refine(HNU.out _).mono ?_;rintro e w' ⟨rfl,rfl⟩) | (go_at_call 154;refine(fault_any _ _ c3).mono ?_;rintro e W4 ⟨rfl,hb4⟩;have HC4:Hid (Cel B b w W4):=((HC1.out.below hBw hlt hb2).below hBw hlt hb3).below hBw hlt hb4;obtain⟨d0,d1,d2,d3⟩:=HC4.out.facts;clear hb2 hb3 hb4));refine bodyPost_ret (v:=.agg #[.int .i64 3,.int .i64 (p:Int)]) (by simp[results,Tryz.results181,go_sem,d0,d1]) rfl ?_;exact⟨HC4.out.fin hBw _ _,fun h=>by simp at h,fun h=>by simp at h,fun _=>rfl⟩
set_option maxHeartbeats 1000000 in
theorem esc_less (w:World) (h:Rd B b l p out w) (hp:p<l.length) (hl:l.length<=140737488351232) (ho:out.length+4<=140737488355328) (hBw:B<=w.heap.size) (hT:Tabs w) (hB2:2<=B) (m:List UInt8) (hm:Hid (m=l.drop (p+1))) (hm1:1<=m.length) (c:UInt8) (hg:∀ h,(mk m)[0]'h=c) (hm2:m.length<=140737488351232) (hmn:mnt c=none) (k:Nat) (hk:k=dgs c) (hk0:k≠0) (hk8:k<=8) (n:Int) (t:List UInt8) (ht:Hid (t=m.drop 1)) (hX:Hid (hexR k t 0=(n,4))) :
  Calls Tryz.prog 181 #[.pointer (some ⟨b,0,none⟩)] w fun e w'=>EscRes B b l p out w (0,0,4) e w':=by
 have hlt:=h.lt;have hB:=h.base;have hsz:=mk_size l;obtain⟨W,hW⟩:∃ W,w.alloc (.cells #[.int .i64 0,.int .i64 0] 33)=W:=⟨_,rfl⟩;have hbW:Below w.heap.size w W:=by rw[<-hW];exact below_alloc _ _
 have HC:Hid (Cel B b w W):=by rw[<-hW];exact Cel.new B b w hBw
 have hRW:Rd B b l p out W:=h.later hbW;have HT:Hid (Tabs W):=hT.later hbW;have c2:=hRW.s;have c3:=hRW.at_;have HR:Hid (Rd B b l p out W):=hRW;clear hRW hbW h hT;go_enter Tryz.func181,Tryz.ntmps181;go_wp2;go_quiet (fail);rw[ext_drop];obtain⟨W1,hW1⟩:∃ W1,W1=W.drewN nq:=⟨_,rfl⟩;have HC1:Hid (Cel B b w W1):=by rw[hW1];exact HC.out.below hBw hlt (below_drewN (Below.refl _ _) nq)
 have HR1:Hid (Rd B b l p out W1):=by rw[hW1];exact HR.out.later (below_drewN (Below.refl _ _) nq)
 have HT1:Hid (Tabs W1):=by rw[hW1];exact HT.out.later (below_drewN (Below.refl _ _) nq)
 rw[<-hW1];clear hW1 HR HC HT c2 c3 hW hsz;clear W;have s1:=HC1.out.sz;rw[<-hm.out];have hmz:=mk_size m;have hq:((mk m).toList==[])=false:=by rw[ByteArray.toList_eq,mk_data];cases m;simp at hm1;simp
 have hq0:((k:Int)==0)=false:=by simp;omega
 have hME:=meant_any c W1 HT1.out;rw[hmn]at hME;have HME:Hid (Calls Tryz.prog 198 #[.int .u8 (c.toNat:Int)] W1 fun e w'=>e=.returned (.tuple #[.int .i64 0,.bool false])/\Below W1.heap.size W1 w'):=hME;have HDG:Hid (∀ W,Tabs W->Calls Tryz.prog 199 #[.int .u8 (c.toNat:Int)] W fun e w'=>e=.returned (.int .i64 (k:Int))/\Below W.heap.size W w'):=fun W hT=>by rw[hk];exact digitsOf_any c W hT
 clear hME hm hmn hk;have e4:(mk m).extract 1 m.length=mk t:=by rw[ht.out];exact ext_drop m 1
 have HNU:Hid (∀ W,Calls Tryz.prog 200 #[.string (mk t),.int .i64 (k:Int)] W fun e w'=>e=.returned (.tuple #[.int .i64 n,.int .i64 4])/\W=w'):=fun W=>by
  have q:=numberOf_any t k W hk8 (by rw[ht.out,List.length_drop];omega);rw[hX.out]at q;exact q
 clear hX ht;go_wp2_with (first | (go_at_call 198;refine HME.out.mono ?_;rintro e W2 ⟨rfl,hb2⟩) | (go_at_call 199;refine(HDG.out _ (HT1.out.later hb2)).mono ?_;rintro e W3 ⟨rfl,hb3⟩;have c2:=(HR1.out.later (hb2.trans (hb3.mono hb2.size))).s;have c3:=(HR1.out.later (hb2.trans (hb3.mono hb2.size))).at_) | (go_at_call 200;refine(HNU.out _).mono ?_;rintro e w' ⟨rfl,rfl⟩) | (go_at_call 180;refine(end_any l _ c2).mono ?_;rintro e W4 ⟨rfl,hb4⟩;have HC4:Hid (Cel B b w W4):=((HC1.out.below hBw hlt hb2).below hBw hlt hb3).below hBw hlt hb4;obtain⟨d0,d1,d2,d3⟩:=HC4.out.facts;clear hb2 hb3 hb4));refine bodyPost_ret (v:=.agg #[.int .i64 4,.int .i64 (l.length:Int)]) (by simp[results,Tryz.results181,go_sem,d0,d1]) rfl ?_;exact⟨HC4.out.fin hBw _ _,fun h=>by simp at h,fun _=>rfl,fun h=>by simp at h⟩
set_option maxHeartbeats 1000000 in
theorem esc_none (w:World) (h:Rd B b l p out w) (hp:p<l.length) (hl:l.length<=140737488351232) (ho:out.length+4<=140737488355328) (hBw:B<=w.heap.size) (hT:Tabs w) (hB2:2<=B) (m:List UInt8) (hm:Hid (m=l.drop (p+1))) (hm1:1<=m.length) (c:UInt8) (hg:∀ h,(mk m)[0]'h=c) (hm2:m.length<=140737488351232) (hmn:mnt c=none) (k:Nat) (hk:k=dgs c) (hk0:k≠0) (hk8:k<=8) (n:Int) (t:List UInt8) (ht:Hid (t=m.drop 1)) (hX:Hid (hexR k t 0=(n,0))) (HS:Hid (sgn n=false)) :
  Calls Tryz.prog 181 #[.pointer (some ⟨b,0,none⟩)] w fun e w'=>EscRes B b l p out w (0,0,3) e w':=by
 have hlt:=h.lt;have hB:=h.base;have hsz:=mk_size l;obtain⟨W,hW⟩:∃ W,w.alloc (.cells #[.int .i64 0,.int .i64 0] 33)=W:=⟨_,rfl⟩;have hbW:Below w.heap.size w W:=by rw[<-hW];exact below_alloc _ _
 have HC:Hid (Cel B b w W):=by rw[<-hW];exact Cel.new B b w hBw
 have hRW:Rd B b l p out W:=h.later hbW;have HT:Hid (Tabs W):=hT.later hbW;have c2:=hRW.s;have c3:=hRW.at_;have HR:Hid (Rd B b l p out W):=hRW;clear hRW hbW h hT;go_enter Tryz.func181,Tryz.ntmps181;go_wp2;go_quiet (fail);rw[ext_drop];obtain⟨W1,hW1⟩:∃ W1,W1=W.drewN nq:=⟨_,rfl⟩;have HC1:Hid (Cel B b w W1):=by rw[hW1];exact HC.out.below hBw hlt (below_drewN (Below.refl _ _) nq)
 have HR1:Hid (Rd B b l p out W1):=by rw[hW1];exact HR.out.later (below_drewN (Below.refl _ _) nq)
 have HT1:Hid (Tabs W1):=by rw[hW1];exact HT.out.later (below_drewN (Below.refl _ _) nq)
 rw[<-hW1];clear hW1 HR HC HT c2 c3 hW hsz;clear W;have s1:=HC1.out.sz;rw[<-hm.out];have hmz:=mk_size m;have hq:((mk m).toList==[])=false:=by rw[ByteArray.toList_eq,mk_data];cases m;simp at hm1;simp
 have hq0:((k:Int)==0)=false:=by simp;omega
 have hME:=meant_any c W1 HT1.out;rw[hmn]at hME;have HME:Hid (Calls Tryz.prog 198 #[.int .u8 (c.toNat:Int)] W1 fun e w'=>e=.returned (.tuple #[.int .i64 0,.bool false])/\Below W1.heap.size W1 w'):=hME;have HDG:Hid (∀ W,Tabs W->Calls Tryz.prog 199 #[.int .u8 (c.toNat:Int)] W fun e w'=>e=.returned (.int .i64 (k:Int))/\Below W.heap.size W w'):=fun W hT=>by rw[hk];exact digitsOf_any c W hT
 clear hME hm hmn hk;have e4:(mk m).extract 1 m.length=mk t:=by rw[ht.out];exact ext_drop m 1
 have HNU:Hid (∀ W,Calls Tryz.prog 200 #[.string (mk t),.int .i64 (k:Int)] W fun e w'=>e=.returned (.tuple #[.int .i64 n,.int .i64 0])/\W=w'):=fun W=>by
  have q:=numberOf_any t k W hk8 (by rw[ht.out,List.length_drop];omega);rw[hX.out]at q;exact q
 clear hX ht;go_wp2_with (first | (go_at_call 198;refine HME.out.mono ?_;rintro e W2 ⟨rfl,hb2⟩) | (go_at_call 199;refine(HDG.out _ (HT1.out.later hb2)).mono ?_;rintro e W3 ⟨rfl,hb3⟩;have c2:=(HR1.out.later (hb2.trans (hb3.mono hb2.size))).s;have c3:=(HR1.out.later (hb2.trans (hb3.mono hb2.size))).at_) | (go_at_call 200;refine(HNU.out _).mono ?_;rintro e w' ⟨rfl,rfl⟩));have HC3:Hid (Cel B b w W3):=(HC1.out.below hBw hlt hb2).below hBw hlt hb3;have HR3:Hid (Rd B b l p out W3):=HR1.out.later (hb2.trans (hb3.mono hb2.size));clear HME HC1 HR1 HT1 hb2 hb3 c2 c3 HDG HNU;refine(putSign_any embR n out HR3.out ho (by have:=HC3.out.sz;omega)).mono ?_;rintro e W5 ⟨rfl,hR5,hb5,hk5⟩;rw[HS.out];have q5:Rd B b l p (out++sgb n) W5:=hR5;have c3:=q5.at_;have HFI:Hid (∀ W2,Below W5.heap.size W5 W2->Cel B b w W2):=fun W2 hb=>(HC3.out.step hlt ⟨hb5,hk5⟩).below hBw hlt hb
 clear hR5 hb5 hk5 HR3 HC3 q5;go_wp2_with (first | (go_at_call 154;refine(fault_any _ _ c3).mono ?_;rintro e W4 ⟨rfl,hb4⟩;have HC4:Hid (Cel B b w W4):=HFI.out W4 hb4;obtain⟨d0,d1,d2,d3⟩:=HC4.out.facts;clear hb4));refine bodyPost_ret (v:=.agg #[.int .i64 3,.int .i64 (p:Int)]) (by simp[results,Tryz.results181,go_sem,d0,d1]) rfl ?_;exact⟨HC4.out.fin hBw _ _,fun h=>by simp at h,fun h=>by simp at h,fun _=>rfl⟩
set_option maxHeartbeats 1000000 in
theorem esc_num (w:World) (h:Rd B b l p out w) (hp:p<l.length) (hl:l.length<=140737488351232) (ho:out.length+4<=140737488355328) (hBw:B<=w.heap.size) (hT:Tabs w) (hB2:2<=B) (m:List UInt8) (hm:Hid (m=l.drop (p+1))) (hm1:1<=m.length) (c:UInt8) (hg:∀ h,(mk m)[0]'h=c) (hm2:m.length<=140737488351232) (hmn:mnt c=none) (k:Nat) (hk:k=dgs c) (hk0:k≠0) (hk8:k<=8) (n:Int) (t:List UInt8) (ht:Hid (t=m.drop 1)) (hX:Hid (hexR k t 0=(n,0))) (HS:Hid (sgn n=true)) (hkl:k+1<=m.length) :
  Calls Tryz.prog 181 #[.pointer (some ⟨b,0,none⟩)] w fun e w'=>EscRes B b l p out w (n,2+k,0) e w':=by
 have hlt:=h.lt;have hB:=h.base;have hsz:=mk_size l;obtain⟨W,hW⟩:∃ W,w.alloc (.cells #[.int .i64 0,.int .i64 0] 33)=W:=⟨_,rfl⟩;have hbW:Below w.heap.size w W:=by rw[<-hW];exact below_alloc _ _
 have HC:Hid (Cel B b w W):=by rw[<-hW];exact Cel.new B b w hBw
 have hRW:Rd B b l p out W:=h.later hbW;have HT:Hid (Tabs W):=hT.later hbW;have c2:=hRW.s;have c3:=hRW.at_;have HR:Hid (Rd B b l p out W):=hRW;clear hRW hbW h hT;go_enter Tryz.func181,Tryz.ntmps181;go_wp2;go_quiet (fail);rw[ext_drop];obtain⟨W1,hW1⟩:∃ W1,W1=W.drewN nq:=⟨_,rfl⟩;have HC1:Hid (Cel B b w W1):=by rw[hW1];exact HC.out.below hBw hlt (below_drewN (Below.refl _ _) nq)
 have HR1:Hid (Rd B b l p out W1):=by rw[hW1];exact HR.out.later (below_drewN (Below.refl _ _) nq)
 have HT1:Hid (Tabs W1):=by rw[hW1];exact HT.out.later (below_drewN (Below.refl _ _) nq)
 rw[<-hW1];clear hW1 HR HC HT c2 c3 hW hsz;clear W;have s1:=HC1.out.sz;rw[<-hm.out];have hmz:=mk_size m;have hq:((mk m).toList==[])=false:=by rw[ByteArray.toList_eq,mk_data];cases m;simp at hm1;simp
 have hq0:((k:Int)==0)=false:=by simp;omega
 have hME:=meant_any c W1 HT1.out;rw[hmn]at hME;have HME:Hid (Calls Tryz.prog 198 #[.int .u8 (c.toNat:Int)] W1 fun e w'=>e=.returned (.tuple #[.int .i64 0,.bool false])/\Below W1.heap.size W1 w'):=hME;have HDG:Hid (∀ W,Tabs W->Calls Tryz.prog 199 #[.int .u8 (c.toNat:Int)] W fun e w'=>e=.returned (.int .i64 (k:Int))/\Below W.heap.size W w'):=fun W hT=>by rw[hk];exact digitsOf_any c W hT
 clear hME hm hmn hk;have e4:(mk m).extract 1 m.length=mk t:=by rw[ht.out];exact ext_drop m 1
 have HNU:Hid (∀ W,Calls Tryz.prog 200 #[.string (mk t),.int .i64 (k:Int)] W fun e w'=>e=.returned (.tuple #[.int .i64 n,.int .i64 0])/\W=w'):=fun W=>by
  have q:=numberOf_any t k W hk8 (by rw[ht.out,List.length_drop];omega);rw[hX.out]at q;exact q
 clear hX ht;go_wp2_with (first | (go_at_call 198;refine HME.out.mono ?_;rintro e W2 ⟨rfl,hb2⟩) | (go_at_call 199;refine(HDG.out _ (HT1.out.later hb2)).mono ?_;rintro e W3 ⟨rfl,hb3⟩;have c2:=(HR1.out.later (hb2.trans (hb3.mono hb2.size))).s;have c3:=(HR1.out.later (hb2.trans (hb3.mono hb2.size))).at_) | (go_at_call 200;refine(HNU.out _).mono ?_;rintro e w' ⟨rfl,rfl⟩));have HC2:Hid (Cel B b w W3):=(HC1.out.below hBw hlt hb2).below hBw hlt hb3;have HR2:Hid (Rd B b l p out W3):=HR1.out.later (hb2.trans (hb3.mono hb2.size));clear HME HC1 HR1 HT1 hb2 hb3 c2 c3 HDG HNU;refine(putSign_any embR n out HR2.out ho (by have:=HC2.out.sz;omega)).mono ?_;rintro e W5 ⟨rfl,hR5,hb5,hk5⟩;rw[HS.out]
 have HR5:Hid (Rd B b l p (out++u8s (byt n)) W5):=by
  have q:Rd B b l p (out++sgb n) W5:=hR5;unfold sgb at q;rw[if_pos HS.out]at q;exact q
 have HC5:Hid (Cel B b w W5):=HC2.out.step hlt ⟨hb5,hk5⟩;obtain⟨W4,hW4⟩:∃ W4,W5.setCell ⟨b,3,none⟩ (.int .i64 ((p+(2+k):Nat):Int))=W4:=⟨_,rfl⟩;have HR4:Hid (Rd B b l (p+(2+k)) (out++u8s (byt n)) W4):=by rw[<-hW4];exact HR5.out.set _
 have HC4:Hid (Cel B b w W4):=by rw[<-hW4];exact HC5.out.set hB hlt 3 _
 rw[show ((p+(2+k):Nat):Int)=(p:Int)+(2+(k:Int)) by omega]at hW4;have c3:=HR5.out.at_;have z3:=HR5.out.fz 3;obtain⟨d0,d1,d2,d3⟩:=HC4.out.facts;clear hR5 hb5 hk5 HR2 HC2 HR5 HC5;go_wp2;refine bodyPost_ret (v:=.agg #[.int .i64 0,.int .i64 0]) (by simp[results,Tryz.results181,go_sem,d0,d1]) rfl ?_;exact⟨HC4.out.fin hBw _ _,fun _=>⟨rfl,HR4.out.fault2 HC4.out.sh (by omega) _ _⟩,fun h=>by simp at h,fun h=>by simp at h⟩
end Quo
namespace Quo
open Utf
theorem stp_le {q:UInt8} {l:List UInt8} (h:(stp q l).1=1):(stp q l).2.1.length<=(stp q l).2.2:=by
 unfold stp at h |-;by_cases h0:l=[]
 ·rw[if_pos h0]at h;simp at h
 rw[if_neg h0]at h |-;by_cases h1:l.getD 0 0=q
 ·rw[if_pos h1]at h |-;by_cases h2:q=39/\1<l.length/\l.getD 1 0=39
  ·rw[if_pos h2];simp
  ·rw[if_neg h2]at h;simp at h
 rw[if_neg h1]at h |-;by_cases h2:q=34/\l.getD 0 0=92
 ·rw[if_pos h2]at h |-;by_cases h3:(escR l).2.2=0
  ·rw[if_pos h3];simp only[u8s_len];have h4:=byt_len (escR l).1;by_cases h5:4<=(escR l).2.1
   ·omega
   ·-- a short one
    unfold escR at h3 h5 |-;by_cases hl:l.length<2
    ·rw[if_pos hl]at h3;simp at h3
    rw[if_neg hl]at h3 h5 |-;generalize l.getD 1 0=c at *;by_cases a1:c=34
    ·rw[if_pos a1];decide
    rw[if_neg a1]at h3 h5 |-;by_cases a2:c=92
    ·rw[if_pos a2];decide
    rw[if_neg a2]at h3 h5 |-;by_cases a3:c=110
    ·rw[if_pos a3];decide
    rw[if_neg a3]at h3 h5 |-;by_cases a4:c=116
    ·rw[if_pos a4];decide
    rw[if_neg a4]at h3 h5 |-;by_cases a5:c=114
    ·rw[if_pos a5];decide
    rw[if_neg a5]at h3 h5 |-;by_cases a6:c=48
    ·rw[if_pos a6];decide
    rw[if_neg a6]at h3 h5 |-
    have hH:∀ k,2<=k->(escH l k).2.2=0-> ¬ 4<=(escH l k).2.1->False:=by
     intro k hk e1 e2;unfold escH at e1 e2;by_cases g1:(hexR k (l.drop 2) 0).2=0
     ·rw[if_pos g1]at e1 e2;by_cases g2:sgn (hexR k (l.drop 2) 0).1=true
      ·rw[if_pos g2]at e2;simp only at e2;omega
      ·rw[if_neg g2]at e1;simp at e1
     ·rw[if_neg g1]at e1;exact g1 e1
    by_cases a7:c=120
    ·rw[if_pos a7]at h3 h5;exact(hH 2 (by decide) h3 h5).elim
    rw[if_neg a7]at h3 h5 |-;by_cases a8:c=117
    ·rw[if_pos a8]at h3 h5;exact(hH 4 (by decide) h3 h5).elim
    rw[if_neg a8]at h3 h5 |-;by_cases a9:c=85
    ·rw[if_pos a9]at h3 h5;exact(hH 8 (by decide) h3 h5).elim
    rw[if_neg a9]at h3;simp at h3
  ·rw[if_neg h3]at h;exact absurd h (escR_ne l)
 rw[if_neg h2]at h |-;by_cases h3:may (fst l).1=true
 ·rw[if_pos h3];simp only[List.length_take];omega
 ·rw[if_neg h3]at h;simp at h
theorem rdF_fuel (q:UInt8):∀ (f:Nat) (m:List UInt8),m.length<=f->∀ (at_:Nat) (out:List UInt8),rdF q f m at_ out=rdF q m.length m at_ out:=by
 intro f
 induction f using Nat.strongRecOn with
 | ind f ih =>
  intro m hm at_ out
  cases f with
  | zero=>rw[show m.length=0 by omega]
  | succ f =>
   by_cases e:m=[]
   ·subst e;rw[rdF];have h4:(stp q []).1=4:=by unfold stp;rfl
    rw[if_neg (by rw[h4];decide),if_neg (by rw[h4];decide),if_pos h4];rfl
   ·have hlen:0<m.length:=List.length_pos_iff.2 e;obtain⟨g,hg⟩:∃ g,m.length=g+1:=⟨m.length-1,by omega⟩;rw[hg,rdF,rdF];by_cases h0:(stp q m).1=0
    ·rw[if_pos h0,if_pos h0]
    rw[if_neg h0,if_neg h0];by_cases h1:(stp q m).1=1
    ·rw[if_pos h1,if_pos h1];obtain⟨n,_,_,h2,h3⟩:=stp_out h1;have hd:(m.drop (stp q m).2.2).length<=g:=by rw[List.length_drop];omega
     rw[ih f (by omega) _ (by omega)];by_cases hgf:g=f
     ·subst hgf;rw[ih g (by omega) _ hd]
     ·rw[ih g (by omega) _ hd]
    ·rw[if_neg h1,if_neg h1,hg]
def rdA (q:UInt8) (m:List UInt8) (at_:Nat) (out:List UInt8):List UInt8 × Nat × Nat × Nat:=rdF q m.length m at_ out
theorem rdA_nil (q:UInt8) (at_:Nat) (out:List UInt8):rdA q [] at_ out=([],0,4,at_):=rfl
theorem rdA_end {q:UInt8} {m:List UInt8} (h:(stp q m).1=0) (at_:Nat) (out:List UInt8):rdA q m at_ out=(out,at_+1,0,0):=by
 unfold rdA
 cases m with
 | nil=>exact absurd h (by unfold stp;simp)
 | cons a r=>rw[List.length_cons,rdF_end h]
theorem rdA_step {q:UInt8} {m:List UInt8} (h:(stp q m).1=1) (at_:Nat) (out:List UInt8):rdA q m at_ out=rdA q (m.drop (stp q m).2.2) (at_+(stp q m).2.2) (out++(stp q m).2.1):=by
 obtain⟨n,_,_,h2,h3⟩:=stp_out h;unfold rdA
 cases hm:m with
 | nil=>rw[hm]at h;exact absurd h (by unfold stp;simp)
 | cons a r =>
  rw[<-hm];have hg:m.length=r.length+1:=by rw[hm];rfl
  rw[hg,rdF,if_neg (by rw[h];decide),if_pos h];exact rdF_fuel q _ _ (by rw[List.length_drop];omega) _ _
theorem rdA_four {q:UInt8} {m:List UInt8} (h:(stp q m).1=4) (at_:Nat) (out:List UInt8):rdA q m at_ out=([],0,4,at_+m.length):=by
 unfold rdA
 cases m with
 | nil=>rfl
 | cons a r=>rw[List.length_cons,rdF,if_neg (by rw[h];decide),if_neg (by rw[h];decide),if_pos h,List.length_cons]
theorem rdA_bad {q:UInt8} {m:List UInt8} (hm:m≠[]) (h0:(stp q m).1≠0) (h1:(stp q m).1≠1) (h4:(stp q m).1≠4) (at_:Nat) (out:List UInt8):rdA q m at_ out=([],0,(stp q m).1,at_):=by
 unfold rdA
 cases m with
 | nil=>exact absurd rfl hm
 | cons a r=>rw[List.length_cons,rdF,if_neg h0,if_neg h1,if_neg h4]
theorem rd_A (l:List UInt8):rd l=if l=[]then ([],0,3,0)else if l.getD 0 0=39\/l.getD 0 0=34 then rdA (l.getD 0 0) (l.drop 1) 1 []else ([],0,3,0):=by
 unfold rd rdA;split
 ·rfl
 split
 ·exact rdF_fuel _ _ _ (by rw[List.length_drop];omega) _ _
 ·rfl
/-! ### the steps, by the first byte -/
theorem stp_quote (q:UInt8) (m:List UInt8) (h:m≠[]) (hq:m.getD 0 0=q) (h2: ¬ (q=39/\1<m.length/\m.getD 1 0=39)):stp q m=(0,[],1):=by
 unfold stp;rw[if_neg h,if_pos hq,if_neg h2]
theorem stp_twice (m:List UInt8) (h:m≠[]) (hq:m.getD 0 0=39) (h1:1<m.length) (h2:m.getD 1 0=39):stp 39 m=(1,[39],2):=by
 unfold stp;rw[if_neg h,if_pos hq,if_pos ⟨rfl,h1,h2⟩]
theorem stp_other (q:UInt8) (m:List UInt8) (h:m≠[]) (hq:m.getD 0 0≠q) (h2: ¬ (q=34/\m.getD 0 0=92)):stp q m=if may (fst m).1=true then (1,m.take (fk m),fk m)else (8,[],0):=by
 unfold stp;rw[if_neg h,if_neg hq,if_neg h2]
theorem stp_escape (m:List UInt8) (h:m≠[]) (hq:m.getD 0 0=92):stp 34 m=if (escR m).2.2=0 then (1,u8s (byt (escR m).1),(escR m).2.1)else ((escR m).2.2,[],0):=by
 unfold stp;rw[if_neg h,if_neg (by rw[hq];decide),if_pos ⟨rfl,hq⟩]
theorem fst_39 (r:List UInt8):fst (39::r)=(39,1)/\fk (39::r)=1:=by
 have h:=fst_enc (n:=39) (by decide) r;have h2:=fk_enc (n:=39) (by decide) r;rw[u8s_39]at h h2;exact⟨h,h2⟩
end Quo
namespace Quo
open Utf Rws
open Go.RowKit
variable {B b:Nat} {l out:List UInt8} {p:Nat} {w w1 w2:World}
theorem escaped_any (w:World) (h:Rd B b l p out w) (hp:p<l.length) (hl:l.length<=140737488351232) (ho:out.length+4<=140737488355328) (hBw:B<=w.heap.size) (hT:Tabs w) (hB2:2<=B) :
  Calls Tryz.prog 181 #[.pointer (some ⟨b,0,none⟩)] w fun e w'=>EscRes B b l p out w (escR (l.drop p)) e w':=by
 obtain⟨m,hm⟩:∃ m,m=l.drop (p+1):=⟨_,rfl⟩;have hml:m.length=l.length-(p+1):=by rw[hm,List.length_drop]
 have hdl:(l.drop p).length=l.length-p:=List.length_drop;by_cases h0:m=[]
 ·have e:escR (l.drop p)=(0,0,4):=by unfold escR;rw[if_pos (by rw[hdl];rw[h0]at hml;simp at hml;omega)]
  rw[e];exact esc_end w h hp hl ho hBw hT hB2 m hm h0
 have hm1:1<=m.length:=List.length_pos_iff.2 h0;have hd1:(l.drop p).getD 1 0=m.getD 0 0:=by rw[hm,List.getD_eq_getElem?_getD,List.getD_eq_getElem?_getD,List.getElem?_drop,List.getElem?_drop]
 have hd2:(l.drop p).drop 2=m.drop 1:=by rw[hm,List.drop_drop,List.drop_drop]
 have hg:∀ h,(mk m)[0]'h=m.getD 0 0:=fun h=>getD_mk m 0 h
 have hm2:m.length<=140737488351232:=by omega
 cases hmn:mnt (m.getD 0 0)with
 | some n =>
  rw[mnt_esc (n:=n) (by omega) (by rw[hd1];exact hmn)];exact esc_short w h hp hl ho hBw hT hB2 m hm hm1 _ hg hm2 n hmn
 | none =>
  rw[dgs_esc (by omega) (by rw[hd1];exact hmn),hd1];by_cases hk0:dgs (m.getD 0 0)=0
  ·rw[if_pos hk0];exact esc_form w h hp hl ho hBw hT hB2 m hm hm1 _ hg hm2 hmn _ rfl hk0
  ·rw[if_neg hk0];unfold escH;rw[hd2];have hk8:=dgs_le (m.getD 0 0);rcases hexR_two (dgs (m.getD 0 0)) (m.drop 1) 0 with h2 | h2 | h2
   ·rw[if_pos h2];have hx:hexR (dgs (m.getD 0 0)) (m.drop 1) 0=((hexR (dgs (m.getD 0 0)) (m.drop 1) 0).1,0):=Prod.ext rfl h2;by_cases hs:sgn (hexR (dgs (m.getD 0 0)) (m.drop 1) 0).1=true
    ·rw[if_pos hs];exact esc_num w h hp hl ho hBw hT hB2 m hm hm1 _ hg hm2 hmn _ rfl hk0 hk8 _ _ rfl hx hs (by have:=hexR_len _ _ 0 h2;rw[List.length_drop]at this;omega)
    ·rw[if_neg hs];exact esc_none w h hp hl ho hBw hT hB2 m hm hm1 _ hg hm2 hmn _ rfl hk0 hk8 _ _ rfl hx (by simpa [Hid]using hs)
   ·have hx:hexR (dgs (m.getD 0 0)) (m.drop 1) 0=((hexR (dgs (m.getD 0 0)) (m.drop 1) 0).1,3):=Prod.ext rfl h2;rw[if_neg (by rw[h2];decide),h2];exact esc_digit w h hp hl ho hBw hT hB2 m hm hm1 _ hg hm2 hmn _ rfl hk0 hk8 _ _ rfl hx
   ·have hx:hexR (dgs (m.getD 0 0)) (m.drop 1) 0=((hexR (dgs (m.getD 0 0)) (m.drop 1) 0).1,4):=Prod.ext rfl h2;rw[if_neg (by rw[h2];decide),h2];exact esc_less w h hp hl ho hBw hT hB2 m hm hm1 _ hg hm2 hmn _ rfl hk0 hk8 _ _ rfl hx
def InRes (B b:Nat) (l:List UInt8) (w:World) (r:List UInt8 × Nat × Nat × Nat) (e:Ending) (w':World):Prop :=
 Fr B b w w'/\e=.returned (.agg #[.int .i64 (r.2.2.1:Int),.int .i64 (r.2.2.2:Int)])/\(r.2.2.1=0->Rd B b l r.2.1 r.1 w')
def plc (b:Nat) (w:World):Nat:=(intOf ((w.cell? ⟨b,3,none⟩).getD (.int .i64 0))).toNat
theorem Rd.plc (h:Rd B b l p out w):plc b w=p:=by unfold Quo.plc;rw[h.at_];simp[intOf]
theorem b39 (c:UInt8):((c.toNat:Int)==39)=(c==39):=by
 rw[Bool.eq_iff_iff,beq_iff_eq,beq_iff_eq,<-UInt8.toNat_inj];have e:(39:UInt8).toNat=39:=rfl;rw[e];omega
theorem n39 (c:UInt8):((c.toNat:Int)!=39)= !(c==39):=by rw[bne,b39]
theorem b34 (c:UInt8):((c.toNat:Int)==34)=(c==34):=by
 rw[Bool.eq_iff_iff,beq_iff_eq,beq_iff_eq,<-UInt8.toNat_inj];have e:(34:UInt8).toNat=34:=rfl;rw[e];omega
theorem b92 (c:UInt8):((c.toNat:Int)==92)=(c==92):=by
 rw[Bool.eq_iff_iff,beq_iff_eq,beq_iff_eq,<-UInt8.toNat_inj];have e:(92:UInt8).toNat=92:=rfl;rw[e];omega
theorem drop_ne' {l:List UInt8} {p:Nat} (h:p<l.length):l.drop p≠[]:=by
 intro e;have:=congrArg List.length e;rw[List.length_drop]at this;simp at this;omega
theorem getD_drop0 (l:List UInt8) (p i:Nat):(l.drop p).getD i 0=l.getD (p+i) 0:=by
 rw[List.getD_eq_getElem?_getD,List.getD_eq_getElem?_getD,List.getElem?_drop]
theorem sign_yes (w:World) (h:Rd B b l p out w) (hp:p<l.length) (hl:l.length<=140737488351232) (ho:out.length+4<=140737488355328) (hBw:B<=w.heap.size) (hm:may (fst (l.drop p)).1=true) :
  Calls Tryz.prog 179 #[.pointer (some ⟨b,0,none⟩)] w fun e w'=>e=.returned (.agg #[.int .i64 0,.int .i64 0])/\Rd B b l (p+fk (l.drop p)) (out++(l.drop p).take (fk (l.drop p))) w'/\Fr B b w w' :=
 (sign_any w h hp hl ho hBw).mono fun _ _ q=>q.1 hm
theorem sign_no (w:World) (h:Rd B b l p out w) (hp:p<l.length) (hl:l.length<=140737488351232) (ho:out.length+4<=140737488355328) (hBw:B<=w.heap.size) (hm:may (fst (l.drop p)).1=false) :
  Calls Tryz.prog 179 #[.pointer (some ⟨b,0,none⟩)] w fun e w'=>e=.returned (.agg #[.int .i64 8,.int .i64 (p:Int)])/\Fr B b w w' :=
 (sign_any w h hp hl ho hBw).mono fun _ _ q=>q.2 hm
set_option maxHeartbeats 2000000 in
theorem inSingle_any (w:World) (p0:Nat) (out0:List UInt8) (h:Rd B b l p0 out0 w) (hp0:p0<=l.length) (ho0:out0.length<=p0) (hl:l.length<=140737488351232) (hBw:B<=w.heap.size) :
  Calls Tryz.prog 155 #[.pointer (some ⟨b,0,none⟩)] w fun e w'=>InRes B b l w (rdA 39 (l.drop p0) p0 out0) e w':=by
 have hlt:=h.lt;have hB:=h.base;have hsz:=mk_size l;obtain⟨R,HR0⟩:∃ R,Hid (R=rdA 39 (l.drop p0) p0 out0):=⟨_,rfl⟩;rw[<-HR0.out];obtain⟨W,hW⟩:∃ W,w.alloc (.cells #[.int .i64 0,.int .i64 0] 33)=W:=⟨_,rfl⟩;have hbW:Below w.heap.size w W:=by rw[<-hW];exact below_alloc _ _
 have HC0:Hid (Cel B b w W):=by rw[<-hW];exact Cel.new B b w hBw
 have HRd:Hid (Rd B b l p0 out0 W):=h.later hbW;clear hbW h;go_enter Tryz.func155,Tryz.ntmps155;go_wp2
 go_loopw [] (fun wr=>∃ (p:Nat) (out:List UInt8),p<=l.length/\out.length<=p/\Rd B b l p out wr/\Cel B b w wr/\R=rdA 39 (l.drop p) p out) (fun wr=>l.length-plc b wr)
 case atStart=>exact⟨p0,out0,hp0,ho0,HRd.out,HC0.out,HR0.out⟩
 case round =>
  clear HRd HC0 HR0 hW hp0 ho0;obtain⟨p,out,hp,ho,hR,hC,hE⟩:=hrel;have HR:Hid (Rd B b l p out wr):=hR;have HC:Hid (Cel B b w wr):=hC;have HE:Hid (R=rdA 39 (l.drop p) p out):=hE;have c2:=hR.s;have c3:=hR.at_;have HP:Hid (plc b wr=p):=hR.plc;clear hR hC hE;by_cases hlt2:p<l.length
  ·go_wp2;go_quiet (fail);obtain⟨w1,hw1⟩:∃ w1,w1=wr.drewN nq:=⟨_,rfl⟩;have HRw1:Hid (Rd B b l p out w1):=by rw[hw1];exact HR.out.later (below_drewN (Below.refl _ _) nq)
   have HCw1:Hid (Cel B b w w1):=by rw[hw1];exact HC.out.below hBw hlt (below_drewN (Below.refl _ _) nq)
   rw[<-hw1];clear hw1 HR HC c2 c3;have c2:=HRw1.out.s;have c3:=HRw1.out.at_;have hg:∀ h,(mk l)[p]'h=l.getD p 0:=fun h=>getD_mk l p h
   obtain⟨c,hc⟩:∃ c,c=l.getD p 0:=⟨_,rfl⟩;have HCc:Hid (c=l.getD p 0):=hc;rw[<-hc]at hg;clear hc;have hq:=b39 c;cases h39:(c==39)
   ·rw[h39]at hq;have hne:=drop_ne' hlt2;have hst:=stp_other 39 (l.drop p) hne (by rw[getD_drop0,Nat.add_zero,<-HCc.out];simpa using h39) (by rintro⟨q,_⟩;cases q);have hfk:=fk_pos _ hne;rw[List.length_drop]at hfk;go_wp2;go_quiet (fail);obtain⟨w2,hw2⟩:∃ w2,w2=w1.drewN nq:=⟨_,rfl⟩;have HRw2:Hid (Rd B b l p out w2):=by rw[hw2];exact HRw1.out.later (below_drewN (Below.refl _ _) nq)
    have HCw2:Hid (Cel B b w w2):=by rw[hw2];exact HCw1.out.below hBw hlt (below_drewN (Below.refl _ _) nq)
    rw[<-hw2];clear hw2 HRw1 HCw1 c2 c3;have c2:=HRw2.out.s;have c3:=HRw2.out.at_;cases hm:may (fst (l.drop p)).1
    ·rw[hm]at hst;have hst':stp 39 (l.drop p)=(8,[],0):=by simpa using hst
     have HV:Hid (R=([],0,8,p)):=by rw[HE.out,rdA_bad hne (by rw[hst'];decide) (by rw[hst'];decide) (by rw[hst'];decide),hst'];exact rfl
     have HSG:Hid (Calls Tryz.prog 179 #[.pointer (some ⟨b,0,none⟩)] w2 fun e w'=>e=.returned (.agg #[.int .i64 8,.int .i64 (p:Int)])/\Cel B b w w'):=(sign_no w2 HRw2.out hlt2 hl (by omega) (by have:=HCw2.out.sz;omega) hm).mono (fun _ _ q=>⟨q.1,HCw2.out.step hlt q.2⟩);clear hst hst' hm hne HRw2 HCw2 HE hfk;go_wp2_with fail;refine HSG.out.mono ?_;rintro e w3 ⟨rfl,hC3⟩;obtain⟨w4,hw4⟩:∃ w4,w3.alloc (.cells #[.int .i64 8,.int .i64 (p:Int)] 33)=w4:=⟨_,rfl⟩;have hs3:=hC3.sz;have HC4:Hid (Cel B b w w4):=by rw[<-hw4];exact hC3.below hBw hlt (below_alloc _ _)
     obtain⟨d0,d1,d2,d3⟩:=HC4.out.facts;have g0:w4.cell? ⟨w3.heap.size,0,none⟩=some (.int .i64 8):=by rw[<-hw4,cell_of_row _ w3.heap.size 0 _ _ (0,0) (heap_alloc_new w3 _)];rfl
     have g1:w4.cell? ⟨w3.heap.size,1,none⟩=some (.int .i64 (p:Int)):=by rw[<-hw4,cell_of_row _ w3.heap.size 1 _ _ (0,0) (heap_alloc_new w3 _)];rfl
     clear hC3;go_wp2;refine bodyPost_ret (v:=.agg #[.int .i64 8,.int .i64 (p:Int)]) (by simp[results,Tryz.results155,go_sem,d0,d1]) rfl ?_;rw[HV.out];exact⟨HC4.out.fin hBw _ _,rfl,fun h=>by simp at h⟩
    ·rw[hm]at hst;have hst':stp 39 (l.drop p)=(1,(l.drop p).take (fk (l.drop p)),fk (l.drop p)):=by simpa using hst
     have hV:R=rdA 39 (l.drop (p+fk (l.drop p))) (p+fk (l.drop p)) (out++(l.drop p).take (fk (l.drop p))):=by rw[HE.out,rdA_step (by rw[hst']),hst',List.drop_drop]
     have hSG:=sign_yes w2 HRw2.out hlt2 hl (by omega) (by have:=HCw2.out.sz;omega) hm;have htl:((l.drop p).take (fk (l.drop p))).length<=fk (l.drop p):=by rw[List.length_take];omega
     generalize fk (l.drop p)=k at *;generalize (l.drop p).take k=o at *;have HV:Hid (R=rdA 39 (l.drop (p+k)) (p+k) (out++o)):=hV;have HSG:Hid (Calls Tryz.prog 179 #[.pointer (some ⟨b,0,none⟩)] w2 fun e w'=>e=.returned (.agg #[.int .i64 0,.int .i64 0])/\Rd B b l (p+k) (out++o) w'/\Cel B b w w'):=hSG.mono (fun _ _ q=>⟨q.1,q.2.1,HCw2.out.step hlt q.2.2⟩);clear hst hst' hV hSG hm hne HRw2 HCw2 HE;obtain⟨f1,f2,f3,f4⟩:=hfk;clear f4;go_wp2_with fail;refine HSG.out.mono ?_;rintro e w3 ⟨rfl,hR3,hC3⟩;have HC4:Hid (Cel B b w (w3.alloc (.cells #[.int .i64 0,.int .i64 0] 33))):=hC3.below hBw hlt (below_alloc _ _);have HR4:Hid (Rd B b l (p+k) (out++o) (w3.alloc (.cells #[.int .i64 0,.int .i64 0] 33))):=hR3.later (below_alloc _ _);clear hC3 hR3;go_wp2;go_roundw
     case rel=>exact⟨p+k,out++o,by omega,by rw[List.length_append];omega,HR4.out,HC4.out,HV.out⟩
     case measure=>rw[HP.out,HR4.out.plc];omega
   ·rw[h39]at hq;go_wp2;go_quiet (fail);obtain⟨w2,hw2⟩:∃ w2,w2=w1.drewN nq:=⟨_,rfl⟩;have HRw2:Hid (Rd B b l p out w2):=by rw[hw2];exact HRw1.out.later (below_drewN (Below.refl _ _) nq)
    have HCw2:Hid (Cel B b w w2):=by rw[hw2];exact HCw1.out.below hBw hlt (below_drewN (Below.refl _ _) nq)
    rw[<-hw2];clear hw2 HRw1 HCw1 c2 c3;have c2:=HRw2.out.s;have c3:=HRw2.out.at_;have z3:=HRw2.out.fz 3;obtain⟨w3,hw3⟩:∃ w3,w2.setCell ⟨b,3,none⟩ (.int .i64 ((p+1:Nat):Int))=w3:=⟨_,rfl⟩;have HRw3:Hid (Rd B b l (p+1) out w3):=by rw[<-hw3];exact HRw2.out.set _
    have HCw3:Hid (Cel B b w w3):=by rw[<-hw3];exact HCw2.out.set hB hlt 3 _
    rw[show ((p+1:Nat):Int)=(p:Int)+1 by omega]at hw3;have k2:=HRw3.out.s;have k3:=HRw3.out.at_;rw[show ((p+1:Nat):Int)=(p:Int)+1 by omega]at k3;clear HRw2 HCw2;have hne:=drop_ne' hlt2;have h0:(l.drop p).getD 0 0=39:=by rw[getD_drop0,Nat.add_zero,<-HCc.out];simpa using h39
    by_cases hN:p+1=l.length
    ·have hq2:((p:Int)+1==(l.length:Int))=true:=by simp;omega
     have HV:Hid (R=(out,p+1,0,0)):=by
      rw[HE.out,rdA_end (by rw[stp_quote 39 _ hne h0 (by rintro⟨_,q,_⟩;rw[List.length_drop]at q;omega)])];exact rfl
     clear hN hne h0;go_wp2;go_quiet (fail);obtain⟨w4,hw4⟩:∃ w4,w4=w3.drewN nq:=⟨_,rfl⟩;have HR4:Hid (Rd B b l (p+1) out w4):=by rw[hw4];exact HRw3.out.later (below_drewN (Below.refl _ _) nq)
     have HC4:Hid (Cel B b w w4):=by rw[hw4];exact HCw3.out.below hBw hlt (below_drewN (Below.refl _ _) nq)
     rw[<-hw4];obtain⟨d0,d1,d2,d3⟩:=HC4.out.facts;clear hw4 HRw3 HCw3 c2 c3 k2 k3 hw3 z3 HE;go_wp2;refine bodyPost_ret (v:=.agg #[.int .i64 0,.int .i64 0]) (by simp[results,Tryz.results155,go_sem,d0,d1]) rfl ?_;rw[HV.out];exact⟨HC4.out.fin hBw _ _,rfl,fun _=>HR4.out.fault2 HC4.out.sh (by omega) _ _⟩
    ·have hN':p+1<l.length:=by omega
     have hq2:((p:Int)+1==(l.length:Int))=false:=by simp;omega
     have hg2:∀ h,(mk l)[p+1]'h=l.getD (p+1) 0:=fun h=>getD_mk l (p+1) h
     have h1:(l.drop p).getD 1 0=l.getD (p+1) 0:=getD_drop0 l p 1;obtain⟨d,hd⟩:∃ d,d=l.getD (p+1) 0:=⟨_,rfl⟩;rw[<-hd]at hg2 h1;have hqd:=n39 d;cases h39d:(d==39)
     ·rw[h39d]at hqd
      have HV:Hid (R=(out,p+1,0,0)):=by
       rw[HE.out,rdA_end (by rw[stp_quote 39 _ hne h0 (by rintro⟨_,_,q⟩;rw[h1]at q;rw[q]at h39d;simp at h39d)])];exact rfl
      clear hN hne h0 hd h1;go_wp2;go_quiet (fail);obtain⟨w4,hw4⟩:∃ w4,w4=w3.drewN nq:=⟨_,rfl⟩;have HR4:Hid (Rd B b l (p+1) out w4):=by rw[hw4];exact HRw3.out.later (below_drewN (Below.refl _ _) nq)
      have HC4:Hid (Cel B b w w4):=by rw[hw4];exact HCw3.out.below hBw hlt (below_drewN (Below.refl _ _) nq)
      rw[<-hw4];obtain⟨d0,d1,d2,d3⟩:=HC4.out.facts;clear hw4 HRw3 HCw3 c2 c3 k2 k3 hw3 z3 HE;go_wp2;refine bodyPost_ret (v:=.agg #[.int .i64 0,.int .i64 0]) (by simp[results,Tryz.results155,go_sem,d0,d1]) rfl ?_;rw[HV.out];exact⟨HC4.out.fin hBw _ _,rfl,fun _=>HR4.out.fault2 HC4.out.sh (by omega) _ _⟩
     ·rw[h39d]at hqd;have hd39:d=39:=by simpa using h39d
      have hst:stp 39 (l.drop p)=(1,[39],2):=stp_twice _ hne h0 (by rw[List.length_drop];omega) (by rw[h1];exact hd39);have HV:Hid (R=rdA 39 (l.drop (p+2)) (p+2) (out++[39])):=by rw[HE.out,rdA_step (by rw[hst]),hst,List.drop_drop];exact rfl
      obtain⟨r,hr⟩:∃ r,l.drop (p+1)=39::r:=⟨_,by rw[drop_cons hN',<-hd,hd39]⟩;obtain⟨hf1,hf2⟩:=fst_39 r;rw[<-hr]at hf1 hf2
      have HSG:Hid (∀ W,Rd B b l (p+1) out W->Cel B b w W->Calls Tryz.prog 179 #[.pointer (some ⟨b,0,none⟩)] W fun e w'=>e=.returned (.agg #[.int .i64 0,.int .i64 0])/\Rd B b l (p+2) (out++[39]) w'/\Cel B b w w'):=fun W hRW hCW=>by
       have q:=sign_yes W hRW hN' hl (by omega) (by have:=hCW.sz;omega) (by rw[hf1];decide);rw[hf2,hr]at q;exact q.mono (fun _ _ q=>⟨q.1,q.2.1,hCW.step hlt q.2.2⟩)
      clear hN hne h0 hd h1 hst hr hf1 hf2 HE hd39;go_wp2;go_quiet (fail);obtain⟨w4,hw4⟩:∃ w4,w4=w3.drewN nq:=⟨_,rfl⟩;have HR4:Hid (Rd B b l (p+1) out w4):=by rw[hw4];exact HRw3.out.later (below_drewN (Below.refl _ _) nq)
      have HC4:Hid (Cel B b w w4):=by rw[hw4];exact HCw3.out.below hBw hlt (below_drewN (Below.refl _ _) nq)
      rw[<-hw4];clear hw4 HRw3 HCw3 c2 c3 k2 k3 hw3 z3;go_wp2_with fail;refine(HSG.out w4 HR4.out HC4.out).mono ?_;rintro e w5 ⟨rfl,hR5,hC5⟩;have HC6:Hid (Cel B b w (w5.alloc (.cells #[.int .i64 0,.int .i64 0] 33))):=hC5.below hBw hlt (below_alloc _ _);have HR6:Hid (Rd B b l (p+2) (out++[39]) (w5.alloc (.cells #[.int .i64 0,.int .i64 0] 33))):=hR5.later (below_alloc _ _);clear hC5 hR5 HR4 HC4;go_wp2;go_roundw
      case rel=>exact⟨p+2,out++[39],by omega,by rw[List.length_append];simp;omega,HR6.out,HC6.out,HV.out⟩
      case measure=>rw[HP.out,HR6.out.plc];omega
  ·have HV:Hid (R=([],0,4,l.length)):=by
    rw[HE.out,List.drop_of_length_le (by omega),rdA_nil,show p=l.length by omega];exact rfl
   go_wp2;go_quiet (fail);obtain⟨w1,hw1⟩:∃ w1,w1=wr.drewN nq:=⟨_,rfl⟩;have k2:w1.cell? ⟨b,2,none⟩=some (.string (mk l)):=by rw[hw1];exact(HR.out.later (below_drewN (Below.refl _ _) nq)).s
   have HC1:Hid (Cel B b w w1):=by rw[hw1];exact HC.out.below hBw hlt (below_drewN (Below.refl _ _) nq)
   rw[<-hw1];clear hw1 HR HC c2 c3 HE;go_wp2_with fail;refine(end_any l _ k2).mono ?_;rintro e w2 ⟨rfl,hb2⟩;have HC2:Hid (Cel B b w w2):=HC1.out.below hBw hlt hb2;obtain⟨d0,d1,d2,d3⟩:=HC2.out.facts;clear hb2 HC1;go_wp2;refine bodyPost_ret (v:=.agg #[.int .i64 4,.int .i64 (l.length:Int)]) (by simp[results,Tryz.results155,go_sem,d0,d1]) rfl ?_;rw[HV.out];exact⟨HC2.out.fin hBw _ _,rfl,fun h=>by simp at h⟩
end Quo
namespace Quo
open Utf Rws
open Go.RowKit
variable {B b:Nat} {l out:List UInt8} {p:Nat} {w w1 w2:World}
theorem Cel.other {W:World} (h:Cel B b w W) (hB:B<=w.heap.size) {k:Nat} (hk:w.heap.size<k) (x y:Value):Cel B b w ((W.setCell ⟨k,0,none⟩ x).setCell ⟨k,1,none⟩ y):=by
 refine⟨h.fr.fault2 (by omega) (by omega) x y,?_,?_⟩
 ·have:=h.sz;simpa [World.setCell]using this
 ·rw[Below.heap_setCell _ _ _ _ (fun e=>by simp only at e;omega),Below.heap_setCell _ _ _ _ (fun e=>by simp only at e;omega)];exact h.cl
theorem keep_cell {W W2:World} {X:Nat} {cs:Array Value} (hf:Fr B b W W2) (hX:W.heap[X]?=some (.cells cs 33 (0,0))) (hne:X≠b):W2.heap[X]?=some (.cells cs 33 (0,0)) :=
 hf.2 _ _ hX (by simpa using hne) (fun c fz e=>by cases e)
theorem escR_two (m:List UInt8):(escR m).2.2=0\/(escR m).2.2=3\/(escR m).2.2=4:=by
 by_cases h:m.length<2
 ·unfold escR;rw[if_pos h];exact .inr (.inr rfl)
 cases hm:mnt (m.getD 1 0)with
 | some n=>rw[mnt_esc (n:=n) (by omega) hm];exact .inl rfl
 | none =>
  rw[dgs_esc (by omega) hm];split
  ·exact .inr (.inl rfl)
  ·unfold escH;split
   ·split
    ·exact .inl rfl
    ·exact .inr (.inl rfl)
   ·exact hexR_two _ _ _
set_option maxHeartbeats 4000000 in
theorem inDouble_any (w:World) (p0:Nat) (out0:List UInt8) (h:Rd B b l p0 out0 w) (hp0:p0<=l.length) (ho0:out0.length<=p0) (hl:l.length<=140737488351232) (hBw:B<=w.heap.size) (hT:Tabs w) (hB2:2<=B) :
  Calls Tryz.prog 156 #[.pointer (some ⟨b,0,none⟩)] w fun e w'=>InRes B b l w (rdA 34 (l.drop p0) p0 out0) e w':=by
 have hlt:=h.lt;have hB:=h.base;have hsz:=mk_size l;obtain⟨R,HR0⟩:∃ R,Hid (R=rdA 34 (l.drop p0) p0 out0):=⟨_,rfl⟩;rw[<-HR0.out];have HT:Hid (∀ W,Cel B b w W->Tabs W):=fun W hC=>hT.under hC.fr.1 hB2
 obtain⟨W,hW⟩:∃ W,w.alloc (.cells #[.int .i64 0,.int .i64 0] 33)=W:=⟨_,rfl⟩;have hbW:Below w.heap.size w W:=by rw[<-hW];exact below_alloc _ _
 have HC0:Hid (Cel B b w W):=by rw[<-hW];exact Cel.new B b w hBw
 have HRd:Hid (Rd B b l p0 out0 W):=h.later hbW;clear hbW h hT;go_enter Tryz.func156,Tryz.ntmps156;go_wp2
 go_loopw [] (fun wr=>∃ (p:Nat) (out:List UInt8),p<=l.length/\out.length<=p/\Rd B b l p out wr/\Cel B b w wr/\R=rdA 34 (l.drop p) p out) (fun wr=>l.length-plc b wr)
 case atStart=>exact⟨p0,out0,hp0,ho0,HRd.out,HC0.out,HR0.out⟩
 case round =>
  clear HRd HC0 HR0 hW hp0 ho0;obtain⟨p,out,hp,ho,hR,hC,hE⟩:=hrel;have HR:Hid (Rd B b l p out wr):=hR;have HC:Hid (Cel B b w wr):=hC;have HE:Hid (R=rdA 34 (l.drop p) p out):=hE;have c2:=hR.s;have c3:=hR.at_;have HP:Hid (plc b wr=p):=hR.plc;clear hR hC hE;by_cases hlt2:p<l.length
  ·go_wp2;go_quiet (fail);obtain⟨w1,hw1⟩:∃ w1,w1=wr.drewN nq:=⟨_,rfl⟩;have HRw1:Hid (Rd B b l p out w1):=by rw[hw1];exact HR.out.later (below_drewN (Below.refl _ _) nq)
   have HCw1:Hid (Cel B b w w1):=by rw[hw1];exact HC.out.below hBw hlt (below_drewN (Below.refl _ _) nq)
   rw[<-hw1];clear hw1 HR HC c2 c3;obtain⟨w2,hw2⟩:∃ w2,w1.alloc (.cells #[.int .i64 0,.int .i64 0] 33)=w2:=⟨_,rfl⟩;have HRw2:Hid (Rd B b l p out w2):=by rw[<-hw2];exact HRw1.out.later (below_alloc _ _)
   have HCw2:Hid (Cel B b w w2):=by rw[<-hw2];exact HCw1.out.below hBw hlt (below_alloc _ _)
   have HXw2:Hid (w2.heap[w1.heap.size]?=some (.cells #[.int .i64 0,.int .i64 0] 33 (0,0))):=by rw[<-hw2];exact heap_alloc_new w1 _
   obtain⟨X,HX⟩:∃ X,Hid (X=w1.heap.size):=⟨_,rfl⟩
   have hXl:w.heap.size<X:=by
    have h1:=(Array.getElem?_eq_some_iff.1 HCw1.out.cl).1;rw[HX.out];exact h1
   have c2:=HRw2.out.s;have c3:=HRw2.out.at_;clear HRw1 HCw1;have hg:∀ h,(mk l)[p]'h=l.getD p 0:=fun h=>getD_mk l p h
   obtain⟨c,hc⟩:∃ c,c=l.getD p 0:=⟨_,rfl⟩;have HCc:Hid (c=l.getD p 0):=hc;rw[<-hc]at hg;clear hc;have hne:=drop_ne' hlt2;have h0:(l.drop p).getD 0 0=c:=by rw[getD_drop0,Nat.add_zero,<-HCc.out]
   have hq34:=b34 c;have hq92:=b92 c;go_wp2;go_quiet (fail);rw[<-HX.out];rw[<-HX.out]at HXw2;obtain⟨w3,hw3⟩:∃ w3,w3=w2.drewN nq:=⟨_,rfl⟩;have HR3:Hid (Rd B b l p out w3):=by rw[hw3];exact HRw2.out.later (below_drewN (Below.refl _ _) nq)
   have HC3:Hid (Cel B b w w3):=by rw[hw3];exact HCw2.out.below hBw hlt (below_drewN (Below.refl _ _) nq)
   have HX3:Hid (w3.heap[X]?=some (.cells #[.int .i64 0,.int .i64 0] 33 (0,0))):=by rw[hw3];exact HXw2.out
   rw[<-hw3];clear hw3 HRw2 HCw2 HXw2 c2 c3 hw2 HX;have c3:=HR3.out.at_;cases h34:(c==34)
   ·rw[h34]at hq34;cases h92:(c==92)
    ·rw[h92]at hq92;have hst:=stp_other 34 (l.drop p) hne (by rw[h0];simpa using h34) (by rintro⟨_,q⟩;rw[h0]at q;rw[q]at h92;simp at h92);have hfk:=fk_pos _ hne;rw[List.length_drop]at hfk;cases hm:may (fst (l.drop p)).1
     ·rw[hm]at hst;have hst':stp 34 (l.drop p)=(8,[],0):=by simpa using hst
      have HV:Hid (R=([],0,8,p)):=by rw[HE.out,rdA_bad hne (by rw[hst'];decide) (by rw[hst'];decide) (by rw[hst'];decide),hst'];exact rfl
      have HSG:Hid (Calls Tryz.prog 179 #[.pointer (some ⟨b,0,none⟩)] w3 fun e w'=>e=.returned (.agg #[.int .i64 8,.int .i64 (p:Int)])/\Cel B b w w'/\w'.heap[X]?=some (.cells #[.int .i64 0,.int .i64 0] 33 (0,0))):=(sign_no w3 HR3.out hlt2 hl (by omega) (by have:=HC3.out.sz;omega) hm).mono (fun _ _ q=>⟨q.1,HC3.out.step hlt q.2,keep_cell q.2 HX3.out (by omega)⟩);clear hst hst' hm hne HR3 HC3 HX3 HE hfk c3 h0;go_wp2_with fail;refine HSG.out.mono ?_;rintro e w4 ⟨rfl,hC4,hX4⟩;have g0:w4.cell? ⟨X,0,none⟩=some (.int .i64 0):=by rw[Lib.cell_of_heap hX4];rfl
      have g1:w4.cell? ⟨X,1,none⟩=some (.int .i64 0):=by rw[Lib.cell_of_heap hX4];rfl
      have g2:w4.frozen? ⟨X,0,none⟩=false:=Lib.frozen_of_heap hX4 0;have g3:w4.frozen? ⟨X,1,none⟩=false:=Lib.frozen_of_heap hX4 1;obtain⟨w5,hw5⟩:∃ w5,(w4.setCell ⟨X,0,none⟩ (.int .i64 8)).setCell ⟨X,1,none⟩ (.int .i64 (p:Int))=w5:=⟨_,rfl⟩;have HC5:Hid (Cel B b w w5):=by rw[<-hw5];exact hC4.other hBw hXl _ _
      have hX5:w5.heap[X]?=some (.cells #[.int .i64 8,.int .i64 (p:Int)] 33 (0,0)):=by rw[<-hw5];simp[World.setCell,Array.getElem?_modify,hX4]
      have k0:w5.cell? ⟨X,0,none⟩=some (.int .i64 8):=by rw[Lib.cell_of_heap hX5];rfl
      have k1:w5.cell? ⟨X,1,none⟩=some (.int .i64 (p:Int)):=by rw[Lib.cell_of_heap hX5];rfl
      obtain⟨d0,d1,d2,d3⟩:=HC5.out.facts;clear hC4 hX4 hX5;go_wp2;refine bodyPost_ret (v:=.agg #[.int .i64 8,.int .i64 (p:Int)]) (by simp[results,Tryz.results156,go_sem,d0,d1]) rfl ?_;rw[HV.out];exact⟨HC5.out.fin hBw _ _,rfl,fun h=>by simp at h⟩
     ·rw[hm]at hst;have hst':stp 34 (l.drop p)=(1,(l.drop p).take (fk (l.drop p)),fk (l.drop p)):=by simpa using hst
      have hV:R=rdA 34 (l.drop (p+fk (l.drop p))) (p+fk (l.drop p)) (out++(l.drop p).take (fk (l.drop p))):=by rw[HE.out,rdA_step (by rw[hst']),hst',List.drop_drop]
      have hSG:=sign_yes w3 HR3.out hlt2 hl (by omega) (by have:=HC3.out.sz;omega) hm;have htl:((l.drop p).take (fk (l.drop p))).length<=fk (l.drop p):=by rw[List.length_take];omega
      generalize fk (l.drop p)=k at *;generalize (l.drop p).take k=o at *;have HV:Hid (R=rdA 34 (l.drop (p+k)) (p+k) (out++o)):=hV;have HSG:Hid (Calls Tryz.prog 179 #[.pointer (some ⟨b,0,none⟩)] w3 fun e w'=>e=.returned (.agg #[.int .i64 0,.int .i64 0])/\Rd B b l (p+k) (out++o) w'/\Cel B b w w'/\w'.heap[X]?=some (.cells #[.int .i64 0,.int .i64 0] 33 (0,0))):=hSG.mono (fun _ _ q=>⟨q.1,q.2.1,HC3.out.step hlt q.2.2,keep_cell q.2.2 HX3.out (by omega)⟩);obtain⟨f1,f2,f3,f4⟩:=hfk;clear hst hst' hV hSG hm hne HR3 HC3 HX3 HE c3 h0 f4;go_wp2_with fail;refine HSG.out.mono ?_;rintro e w4 ⟨rfl,hR4,hC4,hX4⟩;have g0:w4.cell? ⟨X,0,none⟩=some (.int .i64 0):=by rw[Lib.cell_of_heap hX4];rfl
      have g1:w4.cell? ⟨X,1,none⟩=some (.int .i64 0):=by rw[Lib.cell_of_heap hX4];rfl
      have g2:w4.frozen? ⟨X,0,none⟩=false:=Lib.frozen_of_heap hX4 0;have g3:w4.frozen? ⟨X,1,none⟩=false:=Lib.frozen_of_heap hX4 1;obtain⟨w5,hw5⟩:∃ w5,(w4.setCell ⟨X,0,none⟩ (.int .i64 0)).setCell ⟨X,1,none⟩ (.int .i64 0)=w5:=⟨_,rfl⟩;have HC5:Hid (Cel B b w w5):=by rw[<-hw5];exact hC4.other hBw hXl _ _
      have HR5:Hid (Rd B b l (p+k) (out++o) w5):=by rw[<-hw5];exact hR4.fault2 ⟨_,_,hX4⟩ (by omega) _ _
      have hX5:w5.heap[X]?=some (.cells #[.int .i64 0,.int .i64 0] 33 (0,0)):=by rw[<-hw5];simp[World.setCell,Array.getElem?_modify,hX4]
      have k0:w5.cell? ⟨X,0,none⟩=some (.int .i64 0):=by rw[Lib.cell_of_heap hX5];rfl
      clear hC4 hX4 hX5 hR4;go_wp2;go_roundw
      case rel=>exact⟨p+k,out++o,by omega,by rw[List.length_append];omega,HR5.out,HC5.out,HV.out⟩
      case measure=>rw[HP.out,HR5.out.plc];omega
    ·rw[h92]at hq92;have hst:=stp_escape (l.drop p) hne (by rw[h0];simpa using h92);have hES:=escaped_any w3 HR3.out hlt2 hl (by omega) (by have:=HC3.out.sz;omega) (HT.out _ HC3.out) hB2;have hER:=escR_ok (l:=l.drop p);rw[List.length_drop]at hER;by_cases e0:(escR (l.drop p)).2.2=0
     ·rw[if_pos e0]at hst;have hle:=stp_le (q:=34) (l:=l.drop p) (by rw[hst]);have hV:R=rdA 34 (l.drop (p+(escR (l.drop p)).2.1)) (p+(escR (l.drop p)).2.1) (out++u8s (byt (escR (l.drop p)).1)):=by rw[HE.out,rdA_step (by rw[hst]),hst,List.drop_drop]
      rw[hst]at hle;simp only at hle;obtain⟨_,r2,r3⟩:=hER e0;have hSG:Calls Tryz.prog 181 #[.pointer (some ⟨b,0,none⟩)] w3 fun e w'=>e=.returned (.agg #[.int .i64 0,.int .i64 0])/\Rd B b l (p+(escR (l.drop p)).2.1) (out++u8s (byt (escR (l.drop p)).1)) w'/\Fr B b w3 w':=hES.mono (fun _ _ q=>⟨(q.2.1 e0).1,(q.2.1 e0).2,q.1⟩)
      clear hES hER hst e0;generalize u8s (byt (escR (l.drop p)).1)=o at *;generalize (escR (l.drop p)).2.1=k at *;have HV:Hid (R=rdA 34 (l.drop (p+k)) (p+k) (out++o)):=hV;have HSG:Hid (Calls Tryz.prog 181 #[.pointer (some ⟨b,0,none⟩)] w3 fun e w'=>e=.returned (.agg #[.int .i64 0,.int .i64 0])/\Rd B b l (p+k) (out++o) w'/\Cel B b w w'/\w'.heap[X]?=some (.cells #[.int .i64 0,.int .i64 0] 33 (0,0))):=hSG.mono (fun _ _ q=>⟨q.1,q.2.1,HC3.out.step hlt q.2.2,keep_cell q.2.2 HX3.out (by omega)⟩);clear hV hSG hne HR3 HC3 HX3 HE c3 h0;go_wp2_with fail;refine HSG.out.mono ?_;rintro e w4 ⟨rfl,hR4,hC4,hX4⟩;have g0:w4.cell? ⟨X,0,none⟩=some (.int .i64 0):=by rw[Lib.cell_of_heap hX4];rfl
      have g1:w4.cell? ⟨X,1,none⟩=some (.int .i64 0):=by rw[Lib.cell_of_heap hX4];rfl
      have g2:w4.frozen? ⟨X,0,none⟩=false:=Lib.frozen_of_heap hX4 0;have g3:w4.frozen? ⟨X,1,none⟩=false:=Lib.frozen_of_heap hX4 1;obtain⟨w5,hw5⟩:∃ w5,(w4.setCell ⟨X,0,none⟩ (.int .i64 0)).setCell ⟨X,1,none⟩ (.int .i64 0)=w5:=⟨_,rfl⟩;have HC5:Hid (Cel B b w w5):=by rw[<-hw5];exact hC4.other hBw hXl _ _
      have HR5:Hid (Rd B b l (p+k) (out++o) w5):=by rw[<-hw5];exact hR4.fault2 ⟨_,_,hX4⟩ (by omega) _ _
      have hX5:w5.heap[X]?=some (.cells #[.int .i64 0,.int .i64 0] 33 (0,0)):=by rw[<-hw5];simp[World.setCell,Array.getElem?_modify,hX4]
      have k0:w5.cell? ⟨X,0,none⟩=some (.int .i64 0):=by rw[Lib.cell_of_heap hX5];rfl
      clear hC4 hX4 hX5 hR4;go_wp2;go_roundw
      case rel=>exact⟨p+k,out++o,by omega,by rw[List.length_append];omega,HR5.out,HC5.out,HV.out⟩
      case measure=>rw[HP.out,HR5.out.plc];omega
     ·rw[if_neg e0]at hst;by_cases e4:(escR (l.drop p)).2.2=4
      ·have HV:Hid (R=([],0,4,l.length)):=by
        rw[HE.out,rdA_four (by rw[hst];exact e4),List.length_drop,show p+(l.length-p)=l.length by omega];exact rfl
       have HSG:Hid (Calls Tryz.prog 181 #[.pointer (some ⟨b,0,none⟩)] w3 fun e w'=>e=.returned (.agg #[.int .i64 4,.int .i64 (l.length:Int)])/\Cel B b w w'/\w'.heap[X]?=some (.cells #[.int .i64 0,.int .i64 0] 33 (0,0))):=hES.mono (fun _ _ q=>⟨q.2.2.1 e4,HC3.out.step hlt q.1,keep_cell q.1 HX3.out (by omega)⟩);clear hst hES hER hne HR3 HC3 HX3 HE c3 h0 e0 e4;go_wp2_with fail;refine HSG.out.mono ?_;rintro e w4 ⟨rfl,hC4,hX4⟩;have g0:w4.cell? ⟨X,0,none⟩=some (.int .i64 0):=by rw[Lib.cell_of_heap hX4];rfl
       have g1:w4.cell? ⟨X,1,none⟩=some (.int .i64 0):=by rw[Lib.cell_of_heap hX4];rfl
       have g2:w4.frozen? ⟨X,0,none⟩=false:=Lib.frozen_of_heap hX4 0;have g3:w4.frozen? ⟨X,1,none⟩=false:=Lib.frozen_of_heap hX4 1;obtain⟨w5,hw5⟩:∃ w5,(w4.setCell ⟨X,0,none⟩ (.int .i64 4)).setCell ⟨X,1,none⟩ (.int .i64 (l.length:Int))=w5:=⟨_,rfl⟩;have HC5:Hid (Cel B b w w5):=by rw[<-hw5];exact hC4.other hBw hXl _ _
       have hX5:w5.heap[X]?=some (.cells #[.int .i64 4,.int .i64 (l.length:Int)] 33 (0,0)):=by rw[<-hw5];simp[World.setCell,Array.getElem?_modify,hX4]
       have k0:w5.cell? ⟨X,0,none⟩=some (.int .i64 4):=by rw[Lib.cell_of_heap hX5];rfl
       have k1:w5.cell? ⟨X,1,none⟩=some (.int .i64 (l.length:Int)):=by rw[Lib.cell_of_heap hX5];rfl
       obtain⟨d0,d1,d2,d3⟩:=HC5.out.facts;clear hC4 hX4 hX5;go_wp2;refine bodyPost_ret (v:=.agg #[.int .i64 4,.int .i64 (l.length:Int)]) (by simp[results,Tryz.results156,go_sem,d0,d1]) rfl ?_;rw[HV.out];exact⟨HC5.out.fin hBw _ _,rfl,fun h=>by simp at h⟩
      ·have e3:(escR (l.drop p)).2.2=3:=by rcases escR_two (l.drop p)with h | h | h;exact absurd h e0;exact h;exact absurd h e4
       have HV:Hid (R=([],0,3,p)):=by
        rw[HE.out,rdA_bad hne (by rw[hst];exact e0) (by rw[hst,e3];decide) (by rw[hst];exact e4),hst,e3];exact rfl
       have HSG:Hid (Calls Tryz.prog 181 #[.pointer (some ⟨b,0,none⟩)] w3 fun e w'=>e=.returned (.agg #[.int .i64 3,.int .i64 (p:Int)])/\Cel B b w w'/\w'.heap[X]?=some (.cells #[.int .i64 0,.int .i64 0] 33 (0,0))):=hES.mono (fun _ _ q=>⟨q.2.2.2 e3,HC3.out.step hlt q.1,keep_cell q.1 HX3.out (by omega)⟩);clear hst hES hER hne HR3 HC3 HX3 HE c3 h0 e0 e4 e3;go_wp2_with fail;refine HSG.out.mono ?_;rintro e w4 ⟨rfl,hC4,hX4⟩;have g0:w4.cell? ⟨X,0,none⟩=some (.int .i64 0):=by rw[Lib.cell_of_heap hX4];rfl
       have g1:w4.cell? ⟨X,1,none⟩=some (.int .i64 0):=by rw[Lib.cell_of_heap hX4];rfl
       have g2:w4.frozen? ⟨X,0,none⟩=false:=Lib.frozen_of_heap hX4 0;have g3:w4.frozen? ⟨X,1,none⟩=false:=Lib.frozen_of_heap hX4 1;obtain⟨w5,hw5⟩:∃ w5,(w4.setCell ⟨X,0,none⟩ (.int .i64 3)).setCell ⟨X,1,none⟩ (.int .i64 (p:Int))=w5:=⟨_,rfl⟩;have HC5:Hid (Cel B b w w5):=by rw[<-hw5];exact hC4.other hBw hXl _ _
       have hX5:w5.heap[X]?=some (.cells #[.int .i64 3,.int .i64 (p:Int)] 33 (0,0)):=by rw[<-hw5];simp[World.setCell,Array.getElem?_modify,hX4]
       have k0:w5.cell? ⟨X,0,none⟩=some (.int .i64 3):=by rw[Lib.cell_of_heap hX5];rfl
       have k1:w5.cell? ⟨X,1,none⟩=some (.int .i64 (p:Int)):=by rw[Lib.cell_of_heap hX5];rfl
       obtain⟨d0,d1,d2,d3⟩:=HC5.out.facts;clear hC4 hX4 hX5;go_wp2;refine bodyPost_ret (v:=.agg #[.int .i64 3,.int .i64 (p:Int)]) (by simp[results,Tryz.results156,go_sem,d0,d1]) rfl ?_;rw[HV.out];exact⟨HC5.out.fin hBw _ _,rfl,fun h=>by simp at h⟩
   ·rw[h34]at hq34
    have HV:Hid (R=(out,p+1,0,0)):=by
     rw[HE.out,rdA_end (by rw[stp_quote 34 _ hne (by rw[h0];simpa using h34) (by rintro⟨q,_⟩;cases q)])];exact rfl
    have z3:=HR3.out.fz 3;obtain⟨w4,hw4⟩:∃ w4,w3.setCell ⟨b,3,none⟩ (.int .i64 ((p+1:Nat):Int))=w4:=⟨_,rfl⟩;have HR4:Hid (Rd B b l (p+1) out w4):=by rw[<-hw4];exact HR3.out.set _
    have HC4:Hid (Cel B b w w4):=by rw[<-hw4];exact HC3.out.set hB hlt 3 _
    rw[show ((p+1:Nat):Int)=(p:Int)+1 by omega]at hw4;obtain⟨d0,d1,d2,d3⟩:=HC4.out.facts;clear HR3 HC3 HX3 HE hne h0;go_wp2;refine bodyPost_ret (v:=.agg #[.int .i64 0,.int .i64 0]) (by simp[results,Tryz.results156,go_sem,d0,d1]) rfl ?_;rw[HV.out];exact⟨HC4.out.fin hBw _ _,rfl,fun _=>HR4.out.fault2 HC4.out.sh (by omega) _ _⟩
  ·have HV:Hid (R=([],0,4,l.length)):=by
    rw[HE.out,List.drop_of_length_le (by omega),rdA_nil,show p=l.length by omega];exact rfl
   go_wp2;go_quiet (fail);obtain⟨w1,hw1⟩:∃ w1,w1=wr.drewN nq:=⟨_,rfl⟩;have k2:w1.cell? ⟨b,2,none⟩=some (.string (mk l)):=by rw[hw1];exact(HR.out.later (below_drewN (Below.refl _ _) nq)).s
   have HC1:Hid (Cel B b w w1):=by rw[hw1];exact HC.out.below hBw hlt (below_drewN (Below.refl _ _) nq)
   rw[<-hw1];clear hw1 HR HC c2 c3 HE;go_wp2_with fail;refine(end_any l _ k2).mono ?_;rintro e w2 ⟨rfl,hb2⟩;have HC2:Hid (Cel B b w w2):=HC1.out.below hBw hlt hb2;obtain⟨d0,d1,d2,d3⟩:=HC2.out.facts;clear hb2 HC1;go_wp2;refine bodyPost_ret (v:=.agg #[.int .i64 4,.int .i64 (l.length:Int)]) (by simp[results,Tryz.results156,go_sem,d0,d1]) rfl ?_;rw[HV.out];exact⟨HC2.out.fin hBw _ _,rfl,fun h=>by simp at h⟩
end Quo
end Go.Proofs.YtidhpmcmbooaoaaGreatDoor
