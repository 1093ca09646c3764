/- . -/
import Derived.Test.YtidhpmcmbooaoaaGreatDoorR42TreeJoin
import Derived.Test.YtidhpmcmbooaoaaGreatDoorR37FlowFine
import Derived.Deep.RegionWith
set_option linter.unusedSimpArgs false
set_option linter.unusedVariables false
set_option maxRecDepth 100000
namespace Go.Proofs.YtidhpmcmbooaoaaGreatDoor
namespace Tre
open Utf Rws Pln Flw
open Go.RowKit
set_option maxHeartbeats 4000000
theorem far_core (k:Int) (s a:ByteArray) (ad:Option Addr) (len cap:Nat) (W w:World) (L n d:Nat) (ks:List Tr) (hl:len<=9223372036854775807) (hs:s.size<=9223372036854775807) (ha:a.size<=9223372036854775807)
  (HK:Hid (KAt W d ad len ks)) (HBW:Hid (Below W.heap.size W w)) (hn:n<=600) (hL:L<w.heap.size) (hWL:W.heap.size<=L) (hcl:w.cell? ⟨L,0,none⟩=some (.int .i64 n)) (hfr:w.frozen? ⟨L,0,none⟩=false)
  (HI:Hid (∀ v t w n,TrV W d v t->Below W.heap.size W w->n<=600->L<w.heap.size->w.cell? ⟨L,0,none⟩=some (.int .i64 ((n:Nat):Int))->w.frozen? ⟨L,0,none⟩=false ->
   Calls Tryz.prog 4 #[v,.pointer (some ⟨L,0,none⟩)] w fun e w'=>∃ q:Bool,e=.returned (.bool q)/\Below W.heap.size W w'/\L<w'.heap.size/\w'.frozen? ⟨L,0,none⟩=false /\
    (q=false->fineT d t/\∃ n':Nat,n=n'+cntT d t/\w'.cell? ⟨L,0,none⟩=some (.int .i64 (n':Int)))))
  (R:Bool->World->Prop) (hF:Hid (∀ w',Below W.heap.size W w'->L<w'.heap.size->w'.frozen? ⟨L,0,none⟩=false->R true w'))
  (hT:Hid (∀ w',Below W.heap.size W w'->L<w'.heap.size->w'.frozen? ⟨L,0,none⟩=false->s.size<=500->a.size<=100->(∀ i,i<ks.length->fineT d (ks.getD i tr0))->(∃ n':Nat,n=n'+1+sumT d ks ks.length/\w'.cell? ⟨L,0,none⟩=some (.int .i64 (n':Int)))->R false w')) :
  Calls Tryz.prog 4 #[.agg #[.int .i64 k,.string s,.string a,.slice ad len cap],.pointer (some ⟨L,0,none⟩)] w fun e w'=>∃ q:Bool,e=.returned (.bool q)/\R q w':=by
 have HX:Hid (∀ (u:Value) (c:Array Value) (t:TypeId),Below W.heap.size W ((w.setCell ⟨L,0,none⟩ u).alloc (.cells c t))/\L<((w.setCell ⟨L,0,none⟩ u).alloc (.cells c t)).heap.size/\((w.setCell ⟨L,0,none⟩ u).alloc (.cells c t)).frozen? ⟨L,0,none⟩=false):=fun u c t=>by
  have e:(w.setCell ⟨L,0,none⟩ u).heap.size=w.heap.size:=World.size_setCell _ _ _;refine⟨(HBW.out.setCell hWL u).alloc (by rw[e];have:=HBW.out.size;omega) _,?_,?_⟩
  ·rw[World.size_alloc,e];omega
  ·rw[frozen?_alloc_cells,World.frozen?_setCell];exact hfr
 by_cases h1:n=0
 ·subst h1;go_enter Tryz.func4,Tryz.ntmps4;go_wp2;go_ret
  first | exact⟨true,rfl,hF.out _ (HX.out _ _ _).1 (HX.out _ _ _).2.1 (HX.out _ _ _).2.2⟩ | exact .inr ⟨rfl,hF.out _ (HX.out _ _ _).1 (HX.out _ _ _).2.1 (HX.out _ _ _).2.2⟩
 obtain⟨p,rfl⟩:∃ p,n=p+1:=⟨n-1,by omega⟩;by_cases h3:500<s.size
 ·go_enter Tryz.func4,Tryz.ntmps4;go_wp2
  all_goals
   go_ret
   first | exact⟨true,rfl,hF.out _ (HX.out _ _ _).1 (HX.out _ _ _).2.1 (HX.out _ _ _).2.2⟩ | exact .inr ⟨rfl,hF.out _ (HX.out _ _ _).1 (HX.out _ _ _).2.1 (HX.out _ _ _).2.2⟩
 by_cases h4:100<a.size
 ·go_enter Tryz.func4,Tryz.ntmps4;go_wp2
  all_goals
   go_ret
   first | exact⟨true,rfl,hF.out _ (HX.out _ _ _).1 (HX.out _ _ _).2.1 (HX.out _ _ _).2.2⟩ | exact .inr ⟨rfl,hF.out _ (HX.out _ _ _).1 (HX.out _ _ _).2.1 (HX.out _ _ _).2.2⟩
 go_enter Tryz.func4,Tryz.ntmps4;go_wp2
 have hcL:((w.setCell ⟨L,0,none⟩ (.int .i64 (p:Int))).alloc (Obj.cells #[.int .i64 k,.string s,.string a,.slice ad len cap] 24)).cell? ⟨L,0,none⟩=some (.int .i64 (p:Int)):=by
  rw[World.cell?_alloc_lt _ _ _ (by show L<_;rw[World.size_setCell];exact hL),World.cell?_setCell_same' w ⟨L,0,none⟩ _ (by rw[hcl];rfl)]
 have hB2:=HX.out (.int .i64 (p:Int)) #[.int .i64 k,.string s,.string a,.slice ad len cap] 24;clear HX;generalize (w.setCell ⟨L,0,none⟩ (.int .i64 (p:Int))).alloc (Obj.cells #[.int .i64 k,.string s,.string a,.slice ad len cap] 24)=W1 at hcL hB2 |-
 go_loopw [31] (fun i wr=>∃ j m:Nat,j<=len/\i=.int .i64 j/\Below W.heap.size W wr/\L<wr.heap.size/\wr.cell? ⟨L,0,none⟩=some (.int .i64 (m:Int))/\wr.frozen? ⟨L,0,none⟩=false/\p=m+sumT d ks j/\∀ i,i<j->fineT d (ks.getD i tr0)) (fun i _=>len-(intOf i).toNat)
 case atStart=>exact⟨0,p,Nat.zero_le _,rfl,hB2.1,hB2.2.1,hcL,hB2.2.2,rfl,fun i h=>absurd h (by omega)⟩
 case round =>
  obtain⟨j,m,hj,rfl,hbw,hLr,hcr,hfr2,hsum,hfine⟩:=hrel;have HS:Hid (p=m+sumT d ks j):=hsum;have HFN:Hid (∀ i,i<j->fineT d (ks.getD i tr0)):=hfine;have HBR:Hid (Below W.heap.size W wr):=hbw;clear hsum hfine hbw;by_cases hlt:j<len
  ·obtain⟨b,off,rfl,hb,hcell⟩:=HK.out.2 (by omega);obtain⟨c0,c1,c2,c3,x0,x1,x2,x3,hx⟩:=hcell j hlt;replace x0:=(HBR.out.cell (p:=⟨b,off+j*4,none⟩) hb).trans x0;replace x1:=(HBR.out.cell (p:=⟨b,off+j*4+1,none⟩) hb).trans x1;replace x2:=(HBR.out.cell (p:=⟨b,off+j*4+2,none⟩) hb).trans x2;replace x3:=(HBR.out.cell (p:=⟨b,off+j*4+3,none⟩) hb).trans x3;have HV:Hid (TrV W d (.agg #[c0,c1,c2,c3]) (ks.getD j tr0)):=hx;obtain⟨k',s',a',ad',len',cap',rfl,rfl,rfl,rfl⟩:=hx.cells;clear hcell hx
   have HC:Hid (∀ c t,Calls Tryz.prog 4 #[.agg #[.int .i64 k',.string s',.string a',.slice ad' len' cap'],.pointer (some ⟨L,0,none⟩)] (wr.alloc (.cells c t)) fun e w'=>∃ q:Bool,e=.returned (.bool q)/\Hid (Below W.heap.size W w'/\L<w'.heap.size/\w'.frozen? ⟨L,0,none⟩=false /\
     (q=false->fineT d (ks.getD j tr0)/\∃ n':Nat,m=n'+cntT d (ks.getD j tr0)/\w'.cell? ⟨L,0,none⟩=some (.int .i64 (n':Int))))):=by
    intro c t;have hm5:m<=600:=by have:=HS.out;omega
    exact HI.out _ _ _ m HV.out (HBR.out.alloc HBR.out.size _) hm5 (by rw[World.size_alloc];omega) (by rw[World.cell?_alloc_lt _ _ _ (show L<_ from hLr)];exact hcr) (by rw[frozen?_alloc_cells];exact hfr2)
   go_wp2_with (go_at_call 4;refine(HC.out _ _).mono ?_;rintro e w2 ⟨q,rfl,hq⟩;cases q)
   rotate_left
   ·go_ret
    first | exact⟨true,rfl,hF.out _ hq.out.1 hq.out.2.1 hq.out.2.2.1⟩ | exact .inr ⟨rfl,hF.out _ hq.out.1 hq.out.2.1 hq.out.2.2.1⟩
   ·obtain⟨hb2,hL2,hf2,hq2⟩:=hq.out;obtain⟨hfi,n',hn',hc'⟩:=hq2 (by first | rfl | trivial);go_roundw
    case rel =>
     refine⟨j+1,n',by omega,by go_num,hb2,hL2,hc',hf2,?_,fun i hi=> ?_⟩
     ·rw[sumT_succ _ _ _ (by have:=HK.out.1;omega)];have:=HS.out;omega
     ·by_cases e:i=j
      ·rw[e];exact hfi
      ·exact HFN.out i (by omega)
    case measure=>simp[intOf];omega
  ·have HLE:Hid (len=ks.length):=HK.out.1;have e:j=len:=by omega
   subst e;go_wp2;go_ret;have G:R false wr:=hT.out wr HBR.out hLr hfr2 (by omega) (by omega) (fun i hi=>HFN.out i (by have:=HLE.out;omega)) ⟨m,by have:=HS.out;rw[<-HLE.out];omega,hcr⟩
   first | exact⟨false,rfl,G⟩ | exact .inl ⟨rfl,G⟩
theorem far_any:∀ (d:Nat) (v:Value) (t:Tr) (W w:World) (L n:Nat),TrV W d v t->Below W.heap.size W w->n<=600->L<w.heap.size->W.heap.size<=L->w.cell? ⟨L,0,none⟩=some (.int .i64 (n:Int))->w.frozen? ⟨L,0,none⟩=false ->
  Calls Tryz.prog 4 #[v,.pointer (some ⟨L,0,none⟩)] w fun e w'=>∃ q:Bool,e=.returned (.bool q)/\Below W.heap.size W w'/\L<w'.heap.size/\w'.frozen? ⟨L,0,none⟩=false /\
   (q=false->fineT d t/\∃ n':Nat,n=n'+cntT d t/\w'.cell? ⟨L,0,none⟩=some (.int .i64 (n':Int)))
 | 0,v,t,W,w,L,n,h,_,_,_,_,_,_=>h.elim
 | d+1,v,t,W,w,L,n,h,hb,hn,hL,hWL,hc,hf=>by
  obtain⟨ad,len,cap,rfl,hl,hcp,hm,hz,hk⟩:=h;have m1:maxLen=9223372036854775807:=rfl;have e1:(mk t.text).size=t.text.length:=mk_size _;have e2:(mk t.anc).size=t.anc.length:=mk_size _;refine far_core t.kind (mk t.text) (mk t.anc) ad len cap W w L n d t.kids (by omega) (by omega) (by omega) ⟨hl,hk⟩ hb hn hL hWL hc hf ?_ _ ?_ ?_
  ·intro v' t' w' n' h1 h2 h3 h4 h5 h6;exact far_any d v' t' W w' L n' h1 h2 h3 h4 hWL h5 h6
  ·intro w' h1 h2 h3;exact⟨h1,h2,h3,fun h=>by cases h⟩
  ·intro w' h1 h2 h3 h6 h7 h8 h9;refine⟨h1,h2,h3,fun _=> ?_⟩;obtain⟨n',hn',hc'⟩:=h9;refine⟨⟨by omega,by omega,h8⟩,n',?_,hc'⟩;rw[hn'];unfold cntT sumT;rw[List.take_length];omega
theorem far_new {w:World} {d:Nat} {k:Int} {x a:Ln} {ad:Option Addr} {len cap:Nat} {t:Tr} (hV:TrV w d (tv k x a ad len cap) t) :
  Calls Tryz.prog 4 #[tv k x a ad len cap,.pointer (some ⟨w.heap.size+1,0,none⟩)] ((w.alloc (.cells #[.int .i64 k,.string (mk x),.string (mk a),.slice ad len cap] 24)).alloc (.cells #[.int .i64 600] 3)) fun e w'=>∃ q:Bool,e=.returned (.bool q)/\Hid (Below (w.heap.size+1) (w.alloc (.cells #[.int .i64 k,.string (mk x),.string (mk a),.slice ad len cap] 24)) w')/\Hid (w.heap.size+1<w'.heap.size/\w'.frozen? ⟨w.heap.size+1,0,none⟩=false)/\Hid (q=false->fineT d t/\cntT d t<=600)/\Hid (q=false->∃ n':Nat,w'.cell? ⟨w.heap.size+1,0,none⟩=some (.int .i64 (n':Int))):=by
 have b1:=below_alloc w (.cells #[.int .i64 k,.string (mk x),.string (mk a),.slice ad len cap] 24);have s1:(w.alloc (.cells #[.int .i64 k,.string (mk x),.string (mk a),.slice ad len cap] 24)).heap.size=w.heap.size+1:=World.size_alloc _ _;have hV1:=hV.later b1 (Nat.le_refl _);generalize w.alloc (.cells #[.int .i64 k,.string (mk x),.string (mk a),.slice ad len cap] 24)=w1 at b1 s1 hV1 |-;have b2:=below_alloc w1 (.cells #[.int .i64 600] 3);have hcell:=World.cell?_alloc_new w1 #[.int .i64 600] 3 0;rw[s1]at hcell;refine(far_any d _ t w1 _ (w.heap.size+1) 600 hV1 b2 (Nat.le_refl _) (by rw[World.size_alloc];omega) (by omega) (by rw[hcell];rfl) ?_).mono ?_
 ·rw[frozen?_alloc_cells];unfold World.frozen?;rw[Array.getElem?_eq_none (by show w1.heap.size<=w.heap.size+1;omega)]
 ·rintro e w' ⟨q,rfl,hb,h1,h2,hq⟩;rw[s1]at hb;refine⟨q,rfl,hb,⟨h1,h2⟩,fun h=> ?_,fun h=> ?_⟩
  ·obtain⟨h3,n',hn,_⟩:=hq h;exact⟨h3,by omega⟩
  ·obtain⟨h3,n',hn,hc⟩:=hq h;exact⟨n',hc⟩
end Tre
end Go.Proofs.YtidhpmcmbooaoaaGreatDoor
