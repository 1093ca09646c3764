/- . -/
import Derived.Test.YtidhpmcmbooaoaaGreatDoorR22QuoteEsc
import Derived.Deep.RegionWith
set_option linter.unusedSimpArgs false
set_option linter.unusedVariables false
set_option maxRecDepth 100000
namespace Go.Proofs.YtidhpmcmbooaoaaGreatDoor
namespace Quo
open Utf Rws
open Go.RowKit
theorem rdF_zero (q:UInt8):∀ (f:Nat) (l:List UInt8) (at_:Nat) (out:List UInt8),(rdF q f l at_ out).2.2.1=0->(rdF q f l at_ out).2.2.2=0
 | 0,l,at_,out,h=>by simp[rdF]at h
 | f+1,l,at_,out,h=>by
  rw[rdF]at h |-;by_cases h0:(stp q l).1=0
  ·rw[if_pos h0]
  rw[if_neg h0]at h |-;by_cases h1:(stp q l).1=1
  ·rw[if_pos h1]at h |-;exact rdF_zero q f _ _ _ h
  rw[if_neg h1]at h |-;by_cases h4:(stp q l).1=4
  ·rw[if_pos h4]at h;simp at h
  ·rw[if_neg h4]at h;exact absurd h h0
theorem rd_zero (l:List UInt8) (h:(rd l).2.2.1=0):(rd l).2.2.2=0:=by
 unfold rd at h |-;split at h
 ·simp at h
 split at h
 ·rename_i h1 h2;rw[if_neg h1,if_pos h2];exact rdF_zero _ _ _ _ _ h
 ·simp at h
variable {B b:Nat} {l:List UInt8} {w:World}
set_option maxHeartbeats 1000000 in
theorem quoted_any (w:World) (h:Rd B b l 0 [] w) (hl:l.length<=140737488351232) (hBw:B<=w.heap.size) (hT:Tabs w) (hB2:2<=B) :
  Calls Tryz.prog 130 #[.pointer (some ⟨b,0,none⟩)] w fun e w'=>InRes B b l w (rd l) e w':=by
 have hlt:=h.lt;have hB:=h.base;have hsz:=mk_size l;obtain⟨R,HR0⟩:∃ R,Hid (R=rd l):=⟨_,rfl⟩;rw[<-HR0.out];obtain⟨W,hW⟩:∃ W,w.alloc (.cells #[.int .i64 0,.int .i64 0] 33)=W:=⟨_,rfl⟩;have hbW:Below w.heap.size w W:=by rw[<-hW];exact below_alloc _ _
 have HC:Hid (Cel B b w W):=by rw[<-hW];exact Cel.new B b w hBw
 have HR:Hid (Rd B b l 0 [] W):=h.later hbW;have HT:Hid (∀ W,Cel B b w W->Tabs W):=fun W hC=>hT.under hC.fr.1 hB2
 have c2:=HR.out.s;have c3:=HR.out.at_;rw[show ((0:Nat):Int)=0 from rfl]at c3;have z3:=HR.out.fz 3;have hfa:∀ y:Int,Calls Tryz.prog 154 #[.pointer (some ⟨b,0,none⟩),.int .i64 y] W fun e w'=>e=.returned (.agg #[.int .i64 y,.int .i64 0])/\Cel B b w w':=fun y=>(fault_any (p:=0) y W c3).mono (fun _ _ q=>⟨q.1,HC.out.below hBw hlt q.2⟩)
 have HFA:Hid (∀ y:Int,Calls Tryz.prog 154 #[.pointer (some ⟨b,0,none⟩),.int .i64 y] W fun e w'=>e=.returned (.agg #[.int .i64 y,.int .i64 0])/\Cel B b w w'):=hfa;have hrd:=rd_A l;rw[<-HR0.out]at hrd;clear hbW h hT hfa HR0;by_cases h0:l=[]
 ·have HV:Hid (R=([],0,3,0)):=by rw[hrd,if_pos h0];exact rfl
  have hq:((mk l).toList==[])=true:=by rw[ByteArray.toList_eq,mk_data,h0];rfl
  clear hrd h0 HT HR HC;go_enter Tryz.func130,Tryz.ntmps130;go_wp2_with fail;refine(HFA.out _).mono ?_;rintro e w2 ⟨rfl,hC2⟩;have HC2:Hid (Cel B b w w2):=hC2;obtain⟨d0,d1,d2,d3⟩:=HC2.out.facts;clear hC2;go_wp2;refine bodyPost_ret (v:=.agg #[.int .i64 3,.int .i64 0]) (by simp[results,Tryz.results130,go_sem,d0,d1]) rfl ?_;rw[HV.out];exact⟨HC2.out.fin hBw _ _,rfl,fun h=>by simp at h⟩
 have hl1:1<=l.length:=List.length_pos_iff.2 h0;rw[if_neg h0]at hrd;have hq:((mk l).toList==[])=false:=by rw[ByteArray.toList_eq,mk_data];simpa using h0
 have hg:∀ h,(mk l)[0]'h=l.getD 0 0:=fun h=>getD_mk l 0 h
 obtain⟨W2,hW2⟩:∃ W2,W.setCell ⟨b,3,none⟩ (.int .i64 1)=W2:=⟨_,rfl⟩;have HR2:Hid (Rd B b l 1 [] W2):=by rw[<-hW2];exact HR.out.set 1
 have HC2:Hid (Cel B b w W2):=by rw[<-hW2];exact HC.out.set hB hlt 3 _
 have hs2:=HC2.out.sz;generalize l.getD 0 0=c at *;have hq39:=b39 c;have hq34:=b34 c;cases h39:(c==39)
 ·rw[h39]at hq39;cases h34:(c==34)
  ·rw[h34]at hq34;have HV:Hid (R=([],0,3,0)):=by rw[hrd,if_neg (by simp at h39 h34;rintro(q | q);exact h39 q;exact h34 q)];exact rfl
   clear hrd h0 HT HR HC hW2 HR2 HC2;go_enter Tryz.func130,Tryz.ntmps130;go_wp2_with fail;refine(HFA.out _).mono ?_;rintro e w2 ⟨rfl,hC2⟩;have HC2:Hid (Cel B b w w2):=hC2;obtain⟨d0,d1,d2,d3⟩:=HC2.out.facts;clear hC2;go_wp2;refine bodyPost_ret (v:=.agg #[.int .i64 3,.int .i64 0]) (by simp[results,Tryz.results130,go_sem,d0,d1]) rfl ?_;rw[HV.out];exact⟨HC2.out.fin hBw _ _,rfl,fun h=>by simp at h⟩
  ·rw[h34]at hq34;have hc:c=34:=by simpa using h34
   have HIN:Hid (Calls Tryz.prog 156 #[.pointer (some ⟨b,0,none⟩)] W2 fun e w'=>e=.returned (.agg #[.int .i64 (R.2.2.1:Int),.int .i64 (R.2.2.2:Int)])/\Cel B b w w'/\(R.2.2.1=0->Rd B b l R.2.1 R.1 w')):=by
    have q:=inDouble_any W2 1 [] HR2.out hl1 (by simp) hl (by omega) (HT.out _ HC2.out) hB2;rw[if_pos (.inr hc),hc]at hrd;rw[<-hrd]at q;exact q.mono (fun _ _ q=>⟨q.2.1,HC2.out.step hlt q.1,q.2.2⟩)
   obtain⟨Y,hY⟩:∃ Y,Y=(R.2.2.1:Int):=⟨_,rfl⟩;obtain⟨A,hA⟩:∃ A,A=(R.2.2.2:Int):=⟨_,rfl⟩;rw[<-hY,<-hA]at HIN;have HY:Hid (Y=(R.2.2.1:Int)/\A=(R.2.2.2:Int)):=⟨hY,hA⟩;clear hrd h0 HT HR HC HFA hc HR2 HC2 hY hA;go_enter Tryz.func130,Tryz.ntmps130;go_wp2_with fail;refine HIN.out.mono ?_;rintro e w2 ⟨rfl,hC2,hR2⟩;have HC2:Hid (Cel B b w w2):=hC2;have HR2:Hid (R.2.2.1=0->Rd B b l R.2.1 R.1 w2):=hR2;obtain⟨d0,d1,d2,d3⟩:=HC2.out.facts;clear hC2 hR2;go_wp2;refine bodyPost_ret (v:=.agg #[.int .i64 Y,.int .i64 A]) (by simp[results,Tryz.results130,go_sem,d0,d1]) rfl ?_;exact⟨HC2.out.fin hBw _ _,by rw[HY.out.1,HY.out.2],fun h=>(HR2.out h).fault2 HC2.out.sh (by omega) _ _⟩
 ·rw[h39]at hq39;have hc:c=39:=by simpa using h39
  have HIN:Hid (Calls Tryz.prog 155 #[.pointer (some ⟨b,0,none⟩)] W2 fun e w'=>e=.returned (.agg #[.int .i64 (R.2.2.1:Int),.int .i64 (R.2.2.2:Int)])/\Cel B b w w'/\(R.2.2.1=0->Rd B b l R.2.1 R.1 w')):=by
   have q:=inSingle_any W2 1 [] HR2.out hl1 (by simp) hl (by omega);rw[if_pos (.inl hc),hc]at hrd;rw[<-hrd]at q;exact q.mono (fun _ _ q=>⟨q.2.1,HC2.out.step hlt q.1,q.2.2⟩)
  obtain⟨Y,hY⟩:∃ Y,Y=(R.2.2.1:Int):=⟨_,rfl⟩;obtain⟨A,hA⟩:∃ A,A=(R.2.2.2:Int):=⟨_,rfl⟩;rw[<-hY,<-hA]at HIN;have HY:Hid (Y=(R.2.2.1:Int)/\A=(R.2.2.2:Int)):=⟨hY,hA⟩;clear hrd h0 HT HR HC HFA hc HR2 HC2 hY hA;go_enter Tryz.func130,Tryz.ntmps130;go_wp2_with fail;refine HIN.out.mono ?_;rintro e w2 ⟨rfl,hC2,hR2⟩;have HC2:Hid (Cel B b w w2):=hC2;have HR2:Hid (R.2.2.1=0->Rd B b l R.2.1 R.1 w2):=hR2;obtain⟨d0,d1,d2,d3⟩:=HC2.out.facts;clear hC2 hR2;go_wp2;refine bodyPost_ret (v:=.agg #[.int .i64 Y,.int .i64 A]) (by simp[results,Tryz.results130,go_sem,d0,d1]) rfl ?_;exact⟨HC2.out.fin hBw _ _,by rw[HY.out.1,HY.out.2],fun h=>(HR2.out h).fault2 HC2.out.sh (by omega) _ _⟩
def rdV (l:List UInt8):Value:=.tuple #[.string (mk (rd l).1),.int .i64 ((rd l).2.1:Int),.agg #[.int .i64 ((rd l).2.2.1:Int),.int .i64 ((rd l).2.2.2:Int)]]
set_option maxHeartbeats 1000000 in
theorem read_any (l:List UInt8) (w:World) (hl:l.length<=140737488351232) (hT:Tabs w) :
  Calls Tryz.prog 100 #[.string (mk l)] w fun e w'=>e=.returned (rdV l)/\Below w.heap.size w w':=by
 obtain⟨W1,hW1⟩:∃ W1,w.alloc (.cells #[.int .i64 0,.int .i64 0] 33)=W1:=⟨_,rfl⟩;have hs1:W1.heap.size=w.heap.size+1:=by rw[<-hW1];simp
 obtain⟨W2,hW2⟩:∃ W2,W1.alloc (.cells #[.pointer none,.slice none 0 0,.string (mk l),.int .i64 0] 176)=W2:=⟨_,rfl⟩;have hs2:W2.heap.size=w.heap.size+2:=by rw[<-hW2];simp[hs1]
 have hb1:Below w.heap.size w W1:=by rw[<-hW1];exact below_alloc _ _
 have hb2:Below W1.heap.size W1 W2:=by rw[<-hW2];exact below_alloc _ _
 have hR2:Rd (w.heap.size+1) (w.heap.size+1) l 0 [] W2:=by
  have q:=bld_new W1 176 [.string (mk l),.int .i64 ((0:Nat):Int)];rw[hs1]at q;rw[<-hW2];exact q
 have hT2:Tabs W2:=(hT.later hb1).later hb2;have hQ:=quoted_any W2 hR2 hl (by omega) hT2 (by have:=hT.size;omega);have hcl:W2.heap[w.heap.size]?=some (.cells #[.int .i64 0,.int .i64 0] 33 (0,0)):=by rw[hb2.block _ (by omega),<-hW1];exact heap_alloc_new w _
 obtain⟨n0,HN0⟩:∃ n0,Hid (n0=w.heap.size):=⟨_,rfl⟩
 have hKK:∀ W,Below (w.heap.size+1) W2 W->Below w.heap.size w W/\W.heap[w.heap.size]?=some (.cells #[.int .i64 0,.int .i64 0] 33 (0,0))/\w.heap.size+2<=W.heap.size:=fun W hb =>
  ⟨(hb1.trans (hb2.mono (by omega))).trans (hb.mono (by omega)),(hb.block _ (by omega)).trans hcl,by have:=hb.size;omega⟩
 by_cases hz:(rd l).2.2.1=0
 ·have HA:Hid ((rd l).2.2.2=0):=rd_zero l hz;have HZ:Hid ((rd l).2.2.1=0):=hz;obtain⟨P,hP⟩:∃ P,P=(rd l).2.1:=⟨_,rfl⟩;obtain⟨O,hO⟩:∃ O,O=(rd l).1:=⟨_,rfl⟩;have HRV:Hid (rdV l=.tuple #[.string (mk O),.int .i64 (P:Int),.agg #[.int .i64 0,.int .i64 0]]):=by unfold rdV;rw[HZ.out,HA.out,<-hP,<-hO];exact rfl
  have HQ:Hid (Calls Tryz.prog 130 #[.pointer (some ⟨w.heap.size+1,0,none⟩)] W2 fun e w'=>e=.returned (.agg #[.int .i64 0,.int .i64 0])/\Below (w.heap.size+1) W2 w'/\Rd (w.heap.size+1) (w.heap.size+1) l P O w'):=hQ.mono (fun _ _ q=>⟨by rw[q.2.1,HZ.out,HA.out];rfl,q.1.1,by rw[hP,hO];exact q.2.2 hz⟩);have HKK:Hid (∀ W,Below (w.heap.size+1) W2 W->Below w.heap.size w W/\W.heap[w.heap.size]?=some (.cells #[.int .i64 0,.int .i64 0] 33 (0,0))/\w.heap.size+2<=W.heap.size):=hKK;have HS2:Hid (W2.heap.size=w.heap.size+2):=hs2;have HW1:Hid (w.alloc (.cells #[.int .i64 0,.int .i64 0] 33)=W1):=hW1;have HW2:Hid (W1.alloc (.cells #[.pointer none,.slice none 0 0,.string (mk l),.int .i64 0] 176)=W2):=hW2;clear hKK hQ hz hcl hT2 hR2 hb1 hb2 hT hP hO HN0 hW1 hW2 hs1 hs2;rw[HRV.out];go_enter Tryz.func100,Tryz.ntmps100;go_wp2_with fail;rw[HW1.out,HW2.out];refine HQ.out.mono ?_;rintro e w3 ⟨rfl,hb3,hR3⟩;obtain⟨w4,hw4⟩:∃ w4,w4=w3.alloc (.cells #[.int .i64 0,.int .i64 0] 33):=⟨_,rfl⟩;have hb34:Below w3.heap.size w3 w4:=by rw[hw4];exact below_alloc _ _
  have HR4:Hid (Rd (w.heap.size+1) (w.heap.size+1) l P O w4):=hR3.later hb34;have HB4:Hid (Below (w.heap.size+1) W2 w4):=hb3.trans (hb34.mono (by have:=hb3.size;have:=HS2.out;omega));have HW4:Hid (w4=w3.alloc (.cells #[.int .i64 0,.int .i64 0] 33)):=hw4;clear hw4 hb34 hb3 hR3;go_wp2;rw[<-HW4.out];have c3:=HR4.out.at_
  have HST:Hid (∀ W,Below w4.heap.size w4 W->Calls Tryz.prog 16 #[.pointer (some ⟨w.heap.size+1,0,none⟩)] W fun e w'=>e=.returned (.string (mk O))/\w'.cell? ⟨w.heap.size+1,3,none⟩=some (.int .i64 (P:Int))/\Below w.heap.size w w'/\w'.cell? ⟨w.heap.size,0,none⟩=some (.int .i64 0)/\w'.cell? ⟨w.heap.size,1,none⟩=some (.int .i64 0)/\w'.frozen? ⟨w.heap.size,0,none⟩=false/\w'.frozen? ⟨w.heap.size,1,none⟩=false):=fun W hb=>by
   have hRW:=HR4.out.later hb;refine(string_any O hRW (by have:=hRW.lt;omega)).mono ?_;rintro e w' ⟨h1,h2,h3,h4⟩;have q2:Rd (w.heap.size+1) (w.heap.size+1) l P O w':=h2;have hbb:Below (w.heap.size+1) W2 w':=(HB4.out.trans (hb.mono (by have:=HR4.out.lt;omega))).trans h3;obtain⟨k1,k2,k3⟩:=HKK.out w' hbb;exact⟨h1,q2.at_,k1,by rw[Lib.cell_of_heap k2];rfl,by rw[Lib.cell_of_heap k2];rfl,Lib.frozen_of_heap k2 0,Lib.frozen_of_heap k2 1⟩
  clear HR4 HB4 HKK HQ HW4 HW1 HW2 HS2;go_region_with (go_at_call 16;refine(HST.out _ (by first | exact Below.refl _ _ | exact Below.drew (Below.refl _ _) | exact below_drewN (Below.refl _ _) _)).mono ?_;rintro e w5 ⟨rfl,q3,q1,d0,d1,d2,d3⟩)
  all_goals
   go_wp2;refine bodyPost_ret (v:=.tuple #[.string (mk O),.int .i64 (P:Int),.agg #[.int .i64 0,.int .i64 0]]) (by simp[results,Tryz.results100,go_sem,d0,d1]) rfl ⟨rfl,?_⟩;exact(q1.setCell (p:=⟨w.heap.size,0,none⟩) (Nat.le_refl _) _).setCell (p:=⟨w.heap.size,1,none⟩) (Nat.le_refl _) _
 ·obtain⟨hO,hP⟩:=rd_none l hz;obtain⟨Y,hY⟩:∃ Y,Y=((rd l).2.2.1:Int):=⟨_,rfl⟩;obtain⟨A,hA⟩:∃ A,A=((rd l).2.2.2:Int):=⟨_,rfl⟩;have HRV:Hid (rdV l=.tuple #[.string ⟨#[]⟩,.int .i64 0,.agg #[.int .i64 Y,.int .i64 A]]):=by unfold rdV;rw[hO,hP,<-hY,<-hA];exact rfl
  have hYn:(Y != 0)=true:=by rw[hY];simp;omega
  have HQ:Hid (Calls Tryz.prog 130 #[.pointer (some ⟨w.heap.size+1,0,none⟩)] W2 fun e w'=>e=.returned (.agg #[.int .i64 Y,.int .i64 A])/\Below (w.heap.size+1) W2 w'):=hQ.mono (fun _ _ q=>⟨by rw[q.2.1,<-hY,<-hA],q.1.1⟩);have HKK:Hid (∀ W,Below (w.heap.size+1) W2 W->Below w.heap.size w W/\W.heap[w.heap.size]?=some (.cells #[.int .i64 0,.int .i64 0] 33 (0,0))/\w.heap.size+2<=W.heap.size):=hKK;have HS2:Hid (W2.heap.size=w.heap.size+2):=hs2;have HW1:Hid (w.alloc (.cells #[.int .i64 0,.int .i64 0] 33)=W1):=hW1;have HW2:Hid (W1.alloc (.cells #[.pointer none,.slice none 0 0,.string (mk l),.int .i64 0] 176)=W2):=hW2;clear hKK hQ hz hcl hT2 hR2 hb1 hb2 hT hP hO HN0 hW1 hW2 hs1 hs2 hY hA;rw[HRV.out];go_enter Tryz.func100,Tryz.ntmps100;go_wp2_with fail;rw[HW1.out,HW2.out];refine HQ.out.mono ?_;rintro e w3 ⟨rfl,hb3⟩;obtain⟨w4,hw4⟩:∃ w4,w4=w3.alloc (.cells #[.int .i64 Y,.int .i64 A] 33):=⟨_,rfl⟩;have hb34:Below w3.heap.size w3 w4:=by rw[hw4];exact below_alloc _ _
  obtain⟨q1,k2,k3⟩:=HKK.out w4 (hb3.trans (hb34.mono (by have:=hb3.size;have:=HS2.out;omega)));have d0:w4.cell? ⟨w.heap.size,0,none⟩=some (.int .i64 0):=by rw[Lib.cell_of_heap k2];rfl
  have d1:w4.cell? ⟨w.heap.size,1,none⟩=some (.int .i64 0):=by rw[Lib.cell_of_heap k2];rfl
  have d2:w4.frozen? ⟨w.heap.size,0,none⟩=false:=Lib.frozen_of_heap k2 0;have d3:w4.frozen? ⟨w.heap.size,1,none⟩=false:=Lib.frozen_of_heap k2 1;have g0:w4.cell? ⟨w3.heap.size,0,none⟩=some (.int .i64 Y):=by rw[hw4,cell_of_row _ w3.heap.size 0 _ _ (0,0) (heap_alloc_new w3 _)];rfl
  have g1:w4.cell? ⟨w3.heap.size,1,none⟩=some (.int .i64 A):=by rw[hw4,cell_of_row _ w3.heap.size 1 _ _ (0,0) (heap_alloc_new w3 _)];rfl
  have HW4:Hid (w4=w3.alloc (.cells #[.int .i64 Y,.int .i64 A] 33)):=hw4;clear hw4 hb34 hb3 k2 HKK HQ HW1 HW2 HS2;go_wp2;rw[<-HW4.out];go_region
  all_goals
   go_wp2;refine bodyPost_ret (v:=.tuple #[.string ⟨#[]⟩,.int .i64 0,.agg #[.int .i64 Y,.int .i64 A]]) (by simp[results,Tryz.results100,go_sem,d0,d1]) rfl ⟨rfl,?_⟩;exact((below_drewN q1 _).setCell (p:=⟨w.heap.size,0,none⟩) (Nat.le_refl _) _).setCell (p:=⟨w.heap.size,1,none⟩) (Nat.le_refl _) _
end Quo
end Go.Proofs.YtidhpmcmbooaoaaGreatDoor
