/- . -/
import Derived.Test.YtidhpmcmbooaoaaGreatDoorR43QuoteNum
import Derived.Test.YtidhpmcmbooaoaaGreatDoorR26UtfDec
import Derived.Test.YtidhpmcmbooaoaaGreatDoorR42TreeJoin
import Derived.Test.YtidhpmcmbooaoaaGreatDoorR36BlockFold
import Derived.Test.YtidhpmcmbooaoaaGreatDoorR02FlowModel2
import Derived.Test.YtidhpmcmbooaoaaGreatDoorR37FlowFine
import Derived.Test.YtidhpmcmbooaoaaGreatDoorR27BlockMem
import Derived.Test.YtidhpmcmbooaoaaGreatDoorR35BlockStep
set_option linter.unusedSimpArgs false
set_option linter.unusedVariables false
set_option maxRecDepth 100000
namespace Go.Proofs.YtidhpmcmbooaoaaGreatDoor
namespace Quo
open Utf Rws
open Go.RowKit
variable {B b:Nat} {out:List UInt8} {w w1 w2:World}
theorem two_bytes {X:Nat} {cs:Array Value} {t:TypeId} (ht:t≠5) (c:UInt8) (w2 W:World) (hW:Wt B b (out++[92]) w2) (hF:Fr B b w w2) (hX:w2.heap[X]?=some (.cells cs t (0,0))) (hXb:b<X) (hb:Below w2.heap.size w2 W) (ho:out.length+20<=140737488355328) (hB:B<=w2.heap.size) :
  Calls Tryz.prog 67 #[.pointer (some ⟨b,0,none⟩),.int .u8 (c.toNat:Int)] W fun e w'=>e=.returned .nilIface/\(Wt B b (out++[92,c]) w'/\Fr B b w w'):=by
 refine(wByte c W (hW.later hb) (by simp;omega) (by have:=hb.size;omega)).mono ?_;rintro e w' ⟨q1,q2,q3⟩;rw[List.append_assoc]at q2;exact⟨q1,q2,hF.trans ((Fr.of hb hB).trans q3)⟩
set_option maxHeartbeats 8000000 in
theorem put_any (n:Int) (w:World) (h:Wt B b out w) (hsg:sgn n=true) (ho:out.length+20<=140737488355328) (hBw:B<=w.heap.size) (hT:Tabs w) (hB2:2<=B) :
  Calls Tryz.prog 68 #[.pointer (some ⟨b,0,none⟩),.int .i64 n] w fun e w'=>e=.returned (.tuple #[])/\Wt B b (out++esc n) w'/\Fr B b w w':=by
 have hlt:=h.lt;have hB:=h.base;have hbd:=sgn_bd hsg;have HSG:Hid (sgn n=true):=hsg;have HT:Hid (∀ W,Fr B b w W->Tabs W):=fun W hF=>hT.under hF.1 hB2
 obtain⟨t0,fz,hT⟩:=hT.sh;have g0:w.cell? ⟨0,0,none⟩=some (.int .u8 34):=by rw[Lib.cell_of_heap hT];rfl
 have g1:w.cell? ⟨0,1,none⟩=some (.int .i64 34):=by rw[Lib.cell_of_heap hT];rfl
 have g2:w.cell? ⟨0,2,none⟩=some (.int .u8 92):=by rw[Lib.cell_of_heap hT];rfl
 have g3:w.cell? ⟨0,3,none⟩=some (.int .i64 92):=by rw[Lib.cell_of_heap hT];rfl
 have g4:w.cell? ⟨0,4,none⟩=some (.int .u8 110):=by rw[Lib.cell_of_heap hT];rfl
 have g5:w.cell? ⟨0,5,none⟩=some (.int .i64 10):=by rw[Lib.cell_of_heap hT];rfl
 have g6:w.cell? ⟨0,6,none⟩=some (.int .u8 116):=by rw[Lib.cell_of_heap hT];rfl
 have g7:w.cell? ⟨0,7,none⟩=some (.int .i64 9):=by rw[Lib.cell_of_heap hT];rfl
 have g8:w.cell? ⟨0,8,none⟩=some (.int .u8 114):=by rw[Lib.cell_of_heap hT];rfl
 have g9:w.cell? ⟨0,9,none⟩=some (.int .i64 13):=by rw[Lib.cell_of_heap hT];rfl
 have g10:w.cell? ⟨0,10,none⟩=some (.int .u8 48):=by rw[Lib.cell_of_heap hT];rfl
 have g11:w.cell? ⟨0,11,none⟩=some (.int .i64 0):=by rw[Lib.cell_of_heap hT];rfl
 have x0:∀ w:World,(Instr.index 141 (.agg #[.int .u8 34,.int .i64 34,.int .u8 92,.int .i64 92,.int .u8 110,.int .i64 10,.int .u8 116,.int .i64 9,.int .u8 114,.int .i64 13,.int .u8 48,.int .i64 0]) (.int .i64 0)).run Tryz.prog w=.ok (.agg #[.int .u8 34,.int .i64 34]) w:=fun _=>by kernel_rfl
 have x1:∀ w:World,(Instr.index 141 (.agg #[.int .u8 34,.int .i64 34,.int .u8 92,.int .i64 92,.int .u8 110,.int .i64 10,.int .u8 116,.int .i64 9,.int .u8 114,.int .i64 13,.int .u8 48,.int .i64 0]) (.int .i64 1)).run Tryz.prog w=.ok (.agg #[.int .u8 92,.int .i64 92]) w:=fun _=>by kernel_rfl
 have x2:∀ w:World,(Instr.index 141 (.agg #[.int .u8 34,.int .i64 34,.int .u8 92,.int .i64 92,.int .u8 110,.int .i64 10,.int .u8 116,.int .i64 9,.int .u8 114,.int .i64 13,.int .u8 48,.int .i64 0]) (.int .i64 2)).run Tryz.prog w=.ok (.agg #[.int .u8 110,.int .i64 10]) w:=fun _=>by kernel_rfl
 have x3:∀ w:World,(Instr.index 141 (.agg #[.int .u8 34,.int .i64 34,.int .u8 92,.int .i64 92,.int .u8 110,.int .i64 10,.int .u8 116,.int .i64 9,.int .u8 114,.int .i64 13,.int .u8 48,.int .i64 0]) (.int .i64 3)).run Tryz.prog w=.ok (.agg #[.int .u8 116,.int .i64 9]) w:=fun _=>by kernel_rfl
 have x4:∀ w:World,(Instr.index 141 (.agg #[.int .u8 34,.int .i64 34,.int .u8 92,.int .i64 92,.int .u8 110,.int .i64 10,.int .u8 116,.int .i64 9,.int .u8 114,.int .i64 13,.int .u8 48,.int .i64 0]) (.int .i64 4)).run Tryz.prog w=.ok (.agg #[.int .u8 114,.int .i64 13]) w:=fun _=>by kernel_rfl
 have x5:∀ w:World,(Instr.index 141 (.agg #[.int .u8 34,.int .i64 34,.int .u8 92,.int .i64 92,.int .u8 110,.int .i64 10,.int .u8 116,.int .i64 9,.int .u8 114,.int .i64 13,.int .u8 48,.int .i64 0]) (.int .i64 5)).run Tryz.prog w=.ok (.agg #[.int .u8 48,.int .i64 0]) w:=fun _=>by kernel_rfl
 obtain⟨V,HV⟩:∃ V,Hid (V=esc n):=⟨_,rfl⟩;rw[<-HV.out];have HW:Hid (Wt B b out w):=h;obtain⟨n0,n1',n2'⟩:=hbd;clear hT h hsg;go_enter Tryz.func68,Tryz.ntmps68;go_wp2;clear g0 g1 g2 g3 g4 g5 g6 g7 g8 g9 g10 g11
 go_loopw [7] (fun i wr=>∃ k:Int,0<=k/\k<=6/\i=.int .i64 k/\(0<k->n≠34)/\(1<k->n≠92)/\(2<k->n≠10)/\(3<k->n≠9)/\(4<k->n≠13)/\(5<k->n≠0)/\Wt B b out wr/\Fr B b w wr/\w.heap.size<=wr.heap.size) (fun i _=>6-(intOf i).toNat)
 case atStart=>exact⟨0,by decide,by decide,rfl,fun h=>absurd h (by decide),fun h=>absurd h (by decide),fun h=>absurd h (by decide),fun h=>absurd h (by decide),fun h=>absurd h (by decide),fun h=>absurd h (by decide),HW.out,Fr.refl,Nat.le_refl _⟩
 case round =>
  obtain⟨k,hk0,hk,rfl,m0,m1,m2,m3,m4,m5,hW1,hF1,hs1⟩:=hrel;have HW1:Hid (Wt B b out wr):=hW1;have HF1:Hid (Fr B b w wr):=hF1;clear hW1 hF1 HW;rcases(show k=0\/k=1\/k=2\/k=3\/k=4\/k=5\/k=6 by omega)with rfl | rfl | rfl | rfl | rfl | rfl | rfl
  ·by_cases hc:n=34
   ·have hq:((34:Int)==n)=true:=by rw[hc];simp
    have HVV:Hid (V=[92,34]):=by rw[HV.out,hc];exact rfl
    have HNC:Hid (n=34):=hc;clear hc m0 m1 m2 m3 m4 m5;have hw1:Below wr.heap.size wr (wr.alloc (.cells #[.int .u8 34,.int .i64 34] 140)):=below_alloc _ _;have HW2:Hid (Wt B b out (wr.alloc (.cells #[.int .u8 34,.int .i64 34] 140))):=HW1.out.later hw1;have HF2:Hid (Fr B b w (wr.alloc (.cells #[.int .u8 34,.int .i64 34] 140))):=HF1.out.trans (Fr.of hw1 (by omega));have HX1:Hid ((wr.alloc (.cells #[.int .u8 34,.int .i64 34] 140)).heap[wr.heap.size]?=some (.cells #[.int .u8 34,.int .i64 34] 140 (0,0))):=heap_alloc_new wr _;have hsa:(wr.alloc (.cells #[.int .u8 34,.int .i64 34] 140)).heap.size=wr.heap.size+1:=World.size_alloc _ _;obtain⟨X,HXX⟩:∃ X,Hid (X=wr.heap.size):=⟨_,rfl⟩;have hXb:b<X:=by rw[HXX.out];exact HW1.out.lt
    clear hw1 HW1 HF1;go_wp2_with fail;refine(wByte 92 _ HW2.out (by omega) (by omega)).mono ?_;rintro e w2 ⟨rfl,hW2,hF2⟩;rw[<-HXX.out];rw[<-HXX.out]at HX1;have hX2:=hF2.keep HX1.out (by omega) (fun c fz e=>by cases e);have c0:w2.cell? ⟨X,0,none⟩=some (.int .u8 34):=by rw[Lib.cell_of_heap hX2];rfl
    have hs2:w.heap.size<=w2.heap.size:=by have:=hF2.1.size;omega
    have HWB:Hid (∀ W,Below w2.heap.size w2 W->Calls Tryz.prog 67 #[.pointer (some ⟨b,0,none⟩),.int .u8 34] W fun e w'=>e=.returned .nilIface/\(Wt B b (out++[92,34]) w'/\Fr B b w w')):=fun W hb=>two_bytes (X:=X) (by decide) 34 w2 W hW2 (HF2.out.trans hF2) hX2 hXb hb ho (by omega)
    clear hW2 hF2 hX2 HW2 HF2 HX1 HXX hsa;go_wp2;go_region_with (go_at_call 67;refine(HWB.out _ (by first | exact Below.refl _ _ | exact Below.drew (Below.refl _ _) | exact below_drewN (Below.refl _ _) _)).mono ?_;rintro e w3 ⟨rfl,hW3,hF3⟩)
    all_goals
     go_wp2;refine bodyPost_ret (v:=.tuple #[]) (by simp[results,Tryz.results68,go_sem]) rfl ⟨rfl,?_,hF3⟩;rw[HVV.out];exact hW3
   ·have hq:((34:Int)==n)=false:=by simp;omega
    have HN:Hid (((0:Int)<1->n≠34)/\((1:Int)<1->n≠92)/\((2:Int)<1->n≠10)/\((3:Int)<1->n≠9)/\((4:Int)<1->n≠13)/\((5:Int)<1->n≠0)):=⟨fun _=>hc,fun h=>absurd h (by decide),fun h=>absurd h (by decide),fun h=>absurd h (by decide),fun h=>absurd h (by decide),fun h=>absurd h (by decide)⟩;have hw1:Below wr.heap.size wr (wr.alloc (.cells #[.int .u8 34,.int .i64 34] 140)):=below_alloc _ _;have HW2:Hid (Wt B b out (wr.alloc (.cells #[.int .u8 34,.int .i64 34] 140))):=HW1.out.later hw1;have HF2:Hid (Fr B b w (wr.alloc (.cells #[.int .u8 34,.int .i64 34] 140))):=HF1.out.trans (Fr.of hw1 (by omega));clear hw1 HW1 HF1 hc m0 m1 m2 m3 m4 m5;go_wp2;go_roundw
    case rel=>exact⟨1,by decide,by decide,rfl,HN.out.1,HN.out.2.1,HN.out.2.2.1,HN.out.2.2.2.1,HN.out.2.2.2.2.1,HN.out.2.2.2.2.2,HW2.out,HF2.out,by rw[World.size_alloc];omega⟩
    case measure=>simp[intOf]
  ·by_cases hc:n=92
   ·have hq:((92:Int)==n)=true:=by rw[hc];simp
    have HVV:Hid (V=[92,92]):=by rw[HV.out,hc];exact rfl
    have HNC:Hid (n=92):=hc;clear hc m0 m1 m2 m3 m4 m5;have hw1:Below wr.heap.size wr (wr.alloc (.cells #[.int .u8 92,.int .i64 92] 140)):=below_alloc _ _;have HW2:Hid (Wt B b out (wr.alloc (.cells #[.int .u8 92,.int .i64 92] 140))):=HW1.out.later hw1;have HF2:Hid (Fr B b w (wr.alloc (.cells #[.int .u8 92,.int .i64 92] 140))):=HF1.out.trans (Fr.of hw1 (by omega));have HX1:Hid ((wr.alloc (.cells #[.int .u8 92,.int .i64 92] 140)).heap[wr.heap.size]?=some (.cells #[.int .u8 92,.int .i64 92] 140 (0,0))):=heap_alloc_new wr _;have hsa:(wr.alloc (.cells #[.int .u8 92,.int .i64 92] 140)).heap.size=wr.heap.size+1:=World.size_alloc _ _;obtain⟨X,HXX⟩:∃ X,Hid (X=wr.heap.size):=⟨_,rfl⟩;have hXb:b<X:=by rw[HXX.out];exact HW1.out.lt
    clear hw1 HW1 HF1;go_wp2_with fail;refine(wByte 92 _ HW2.out (by omega) (by omega)).mono ?_;rintro e w2 ⟨rfl,hW2,hF2⟩;rw[<-HXX.out];rw[<-HXX.out]at HX1;have hX2:=hF2.keep HX1.out (by omega) (fun c fz e=>by cases e);have c0:w2.cell? ⟨X,0,none⟩=some (.int .u8 92):=by rw[Lib.cell_of_heap hX2];rfl
    have hs2:w.heap.size<=w2.heap.size:=by have:=hF2.1.size;omega
    have HWB:Hid (∀ W,Below w2.heap.size w2 W->Calls Tryz.prog 67 #[.pointer (some ⟨b,0,none⟩),.int .u8 92] W fun e w'=>e=.returned .nilIface/\(Wt B b (out++[92,92]) w'/\Fr B b w w')):=fun W hb=>two_bytes (X:=X) (by decide) 92 w2 W hW2 (HF2.out.trans hF2) hX2 hXb hb ho (by omega)
    clear hW2 hF2 hX2 HW2 HF2 HX1 HXX hsa;go_wp2;go_region_with (go_at_call 67;refine(HWB.out _ (by first | exact Below.refl _ _ | exact Below.drew (Below.refl _ _) | exact below_drewN (Below.refl _ _) _)).mono ?_;rintro e w3 ⟨rfl,hW3,hF3⟩)
    all_goals
     go_wp2;refine bodyPost_ret (v:=.tuple #[]) (by simp[results,Tryz.results68,go_sem]) rfl ⟨rfl,?_,hF3⟩;rw[HVV.out];exact hW3
   ·have hq:((92:Int)==n)=false:=by simp;omega
    have HN:Hid (((0:Int)<2->n≠34)/\((1:Int)<2->n≠92)/\((2:Int)<2->n≠10)/\((3:Int)<2->n≠9)/\((4:Int)<2->n≠13)/\((5:Int)<2->n≠0)):=⟨fun _=>m0 (by decide),fun _=>hc,fun h=>absurd h (by decide),fun h=>absurd h (by decide),fun h=>absurd h (by decide),fun h=>absurd h (by decide)⟩;have hw1:Below wr.heap.size wr (wr.alloc (.cells #[.int .u8 92,.int .i64 92] 140)):=below_alloc _ _;have HW2:Hid (Wt B b out (wr.alloc (.cells #[.int .u8 92,.int .i64 92] 140))):=HW1.out.later hw1;have HF2:Hid (Fr B b w (wr.alloc (.cells #[.int .u8 92,.int .i64 92] 140))):=HF1.out.trans (Fr.of hw1 (by omega));clear hw1 HW1 HF1 hc m0 m1 m2 m3 m4 m5;go_wp2;go_roundw
    case rel=>exact⟨2,by decide,by decide,rfl,HN.out.1,HN.out.2.1,HN.out.2.2.1,HN.out.2.2.2.1,HN.out.2.2.2.2.1,HN.out.2.2.2.2.2,HW2.out,HF2.out,by rw[World.size_alloc];omega⟩
    case measure=>simp[intOf]
  ·by_cases hc:n=10
   ·have hq:((10:Int)==n)=true:=by rw[hc];simp
    have HVV:Hid (V=[92,110]):=by rw[HV.out,hc];exact rfl
    have HNC:Hid (n=10):=hc;clear hc m0 m1 m2 m3 m4 m5;have hw1:Below wr.heap.size wr (wr.alloc (.cells #[.int .u8 110,.int .i64 10] 140)):=below_alloc _ _;have HW2:Hid (Wt B b out (wr.alloc (.cells #[.int .u8 110,.int .i64 10] 140))):=HW1.out.later hw1;have HF2:Hid (Fr B b w (wr.alloc (.cells #[.int .u8 110,.int .i64 10] 140))):=HF1.out.trans (Fr.of hw1 (by omega));have HX1:Hid ((wr.alloc (.cells #[.int .u8 110,.int .i64 10] 140)).heap[wr.heap.size]?=some (.cells #[.int .u8 110,.int .i64 10] 140 (0,0))):=heap_alloc_new wr _;have hsa:(wr.alloc (.cells #[.int .u8 110,.int .i64 10] 140)).heap.size=wr.heap.size+1:=World.size_alloc _ _;obtain⟨X,HXX⟩:∃ X,Hid (X=wr.heap.size):=⟨_,rfl⟩;have hXb:b<X:=by rw[HXX.out];exact HW1.out.lt
    clear hw1 HW1 HF1;go_wp2_with fail;refine(wByte 92 _ HW2.out (by omega) (by omega)).mono ?_;rintro e w2 ⟨rfl,hW2,hF2⟩;rw[<-HXX.out];rw[<-HXX.out]at HX1;have hX2:=hF2.keep HX1.out (by omega) (fun c fz e=>by cases e);have c0:w2.cell? ⟨X,0,none⟩=some (.int .u8 110):=by rw[Lib.cell_of_heap hX2];rfl
    have hs2:w.heap.size<=w2.heap.size:=by have:=hF2.1.size;omega
    have HWB:Hid (∀ W,Below w2.heap.size w2 W->Calls Tryz.prog 67 #[.pointer (some ⟨b,0,none⟩),.int .u8 110] W fun e w'=>e=.returned .nilIface/\(Wt B b (out++[92,110]) w'/\Fr B b w w')):=fun W hb=>two_bytes (X:=X) (by decide) 110 w2 W hW2 (HF2.out.trans hF2) hX2 hXb hb ho (by omega)
    clear hW2 hF2 hX2 HW2 HF2 HX1 HXX hsa;go_wp2;go_region_with (go_at_call 67;refine(HWB.out _ (by first | exact Below.refl _ _ | exact Below.drew (Below.refl _ _) | exact below_drewN (Below.refl _ _) _)).mono ?_;rintro e w3 ⟨rfl,hW3,hF3⟩)
    all_goals
     go_wp2;refine bodyPost_ret (v:=.tuple #[]) (by simp[results,Tryz.results68,go_sem]) rfl ⟨rfl,?_,hF3⟩;rw[HVV.out];exact hW3
   ·have hq:((10:Int)==n)=false:=by simp;omega
    have HN:Hid (((0:Int)<3->n≠34)/\((1:Int)<3->n≠92)/\((2:Int)<3->n≠10)/\((3:Int)<3->n≠9)/\((4:Int)<3->n≠13)/\((5:Int)<3->n≠0)):=⟨fun _=>m0 (by decide),fun _=>m1 (by decide),fun _=>hc,fun h=>absurd h (by decide),fun h=>absurd h (by decide),fun h=>absurd h (by decide)⟩;have hw1:Below wr.heap.size wr (wr.alloc (.cells #[.int .u8 110,.int .i64 10] 140)):=below_alloc _ _;have HW2:Hid (Wt B b out (wr.alloc (.cells #[.int .u8 110,.int .i64 10] 140))):=HW1.out.later hw1;have HF2:Hid (Fr B b w (wr.alloc (.cells #[.int .u8 110,.int .i64 10] 140))):=HF1.out.trans (Fr.of hw1 (by omega));clear hw1 HW1 HF1 hc m0 m1 m2 m3 m4 m5;go_wp2;go_roundw
    case rel=>exact⟨3,by decide,by decide,rfl,HN.out.1,HN.out.2.1,HN.out.2.2.1,HN.out.2.2.2.1,HN.out.2.2.2.2.1,HN.out.2.2.2.2.2,HW2.out,HF2.out,by rw[World.size_alloc];omega⟩
    case measure=>simp[intOf]
  ·by_cases hc:n=9
   ·have hq:((9:Int)==n)=true:=by rw[hc];simp
    have HVV:Hid (V=[92,116]):=by rw[HV.out,hc];exact rfl
    have HNC:Hid (n=9):=hc;clear hc m0 m1 m2 m3 m4 m5;have hw1:Below wr.heap.size wr (wr.alloc (.cells #[.int .u8 116,.int .i64 9] 140)):=below_alloc _ _;have HW2:Hid (Wt B b out (wr.alloc (.cells #[.int .u8 116,.int .i64 9] 140))):=HW1.out.later hw1;have HF2:Hid (Fr B b w (wr.alloc (.cells #[.int .u8 116,.int .i64 9] 140))):=HF1.out.trans (Fr.of hw1 (by omega));have HX1:Hid ((wr.alloc (.cells #[.int .u8 116,.int .i64 9] 140)).heap[wr.heap.size]?=some (.cells #[.int .u8 116,.int .i64 9] 140 (0,0))):=heap_alloc_new wr _;have hsa:(wr.alloc (.cells #[.int .u8 116,.int .i64 9] 140)).heap.size=wr.heap.size+1:=World.size_alloc _ _;obtain⟨X,HXX⟩:∃ X,Hid (X=wr.heap.size):=⟨_,rfl⟩;have hXb:b<X:=by rw[HXX.out];exact HW1.out.lt
    clear hw1 HW1 HF1;go_wp2_with fail;refine(wByte 92 _ HW2.out (by omega) (by omega)).mono ?_;rintro e w2 ⟨rfl,hW2,hF2⟩;rw[<-HXX.out];rw[<-HXX.out]at HX1;have hX2:=hF2.keep HX1.out (by omega) (fun c fz e=>by cases e);have c0:w2.cell? ⟨X,0,none⟩=some (.int .u8 116):=by rw[Lib.cell_of_heap hX2];rfl
    have hs2:w.heap.size<=w2.heap.size:=by have:=hF2.1.size;omega
    have HWB:Hid (∀ W,Below w2.heap.size w2 W->Calls Tryz.prog 67 #[.pointer (some ⟨b,0,none⟩),.int .u8 116] W fun e w'=>e=.returned .nilIface/\(Wt B b (out++[92,116]) w'/\Fr B b w w')):=fun W hb=>two_bytes (X:=X) (by decide) 116 w2 W hW2 (HF2.out.trans hF2) hX2 hXb hb ho (by omega)
    clear hW2 hF2 hX2 HW2 HF2 HX1 HXX hsa;go_wp2;go_region_with (go_at_call 67;refine(HWB.out _ (by first | exact Below.refl _ _ | exact Below.drew (Below.refl _ _) | exact below_drewN (Below.refl _ _) _)).mono ?_;rintro e w3 ⟨rfl,hW3,hF3⟩)
    all_goals
     go_wp2;refine bodyPost_ret (v:=.tuple #[]) (by simp[results,Tryz.results68,go_sem]) rfl ⟨rfl,?_,hF3⟩;rw[HVV.out];exact hW3
   ·have hq:((9:Int)==n)=false:=by simp;omega
    have HN:Hid (((0:Int)<4->n≠34)/\((1:Int)<4->n≠92)/\((2:Int)<4->n≠10)/\((3:Int)<4->n≠9)/\((4:Int)<4->n≠13)/\((5:Int)<4->n≠0)):=⟨fun _=>m0 (by decide),fun _=>m1 (by decide),fun _=>m2 (by decide),fun _=>hc,fun h=>absurd h (by decide),fun h=>absurd h (by decide)⟩;have hw1:Below wr.heap.size wr (wr.alloc (.cells #[.int .u8 116,.int .i64 9] 140)):=below_alloc _ _;have HW2:Hid (Wt B b out (wr.alloc (.cells #[.int .u8 116,.int .i64 9] 140))):=HW1.out.later hw1;have HF2:Hid (Fr B b w (wr.alloc (.cells #[.int .u8 116,.int .i64 9] 140))):=HF1.out.trans (Fr.of hw1 (by omega));clear hw1 HW1 HF1 hc m0 m1 m2 m3 m4 m5;go_wp2;go_roundw
    case rel=>exact⟨4,by decide,by decide,rfl,HN.out.1,HN.out.2.1,HN.out.2.2.1,HN.out.2.2.2.1,HN.out.2.2.2.2.1,HN.out.2.2.2.2.2,HW2.out,HF2.out,by rw[World.size_alloc];omega⟩
    case measure=>simp[intOf]
  ·by_cases hc:n=13
   ·have hq:((13:Int)==n)=true:=by rw[hc];simp
    have HVV:Hid (V=[92,114]):=by rw[HV.out,hc];exact rfl
    have HNC:Hid (n=13):=hc;clear hc m0 m1 m2 m3 m4 m5;have hw1:Below wr.heap.size wr (wr.alloc (.cells #[.int .u8 114,.int .i64 13] 140)):=below_alloc _ _;have HW2:Hid (Wt B b out (wr.alloc (.cells #[.int .u8 114,.int .i64 13] 140))):=HW1.out.later hw1;have HF2:Hid (Fr B b w (wr.alloc (.cells #[.int .u8 114,.int .i64 13] 140))):=HF1.out.trans (Fr.of hw1 (by omega));have HX1:Hid ((wr.alloc (.cells #[.int .u8 114,.int .i64 13] 140)).heap[wr.heap.size]?=some (.cells #[.int .u8 114,.int .i64 13] 140 (0,0))):=heap_alloc_new wr _;have hsa:(wr.alloc (.cells #[.int .u8 114,.int .i64 13] 140)).heap.size=wr.heap.size+1:=World.size_alloc _ _;obtain⟨X,HXX⟩:∃ X,Hid (X=wr.heap.size):=⟨_,rfl⟩;have hXb:b<X:=by rw[HXX.out];exact HW1.out.lt
    clear hw1 HW1 HF1;go_wp2_with fail;refine(wByte 92 _ HW2.out (by omega) (by omega)).mono ?_;rintro e w2 ⟨rfl,hW2,hF2⟩;rw[<-HXX.out];rw[<-HXX.out]at HX1;have hX2:=hF2.keep HX1.out (by omega) (fun c fz e=>by cases e);have c0:w2.cell? ⟨X,0,none⟩=some (.int .u8 114):=by rw[Lib.cell_of_heap hX2];rfl
    have hs2:w.heap.size<=w2.heap.size:=by have:=hF2.1.size;omega
    have HWB:Hid (∀ W,Below w2.heap.size w2 W->Calls Tryz.prog 67 #[.pointer (some ⟨b,0,none⟩),.int .u8 114] W fun e w'=>e=.returned .nilIface/\(Wt B b (out++[92,114]) w'/\Fr B b w w')):=fun W hb=>two_bytes (X:=X) (by decide) 114 w2 W hW2 (HF2.out.trans hF2) hX2 hXb hb ho (by omega)
    clear hW2 hF2 hX2 HW2 HF2 HX1 HXX hsa;go_wp2;go_region_with (go_at_call 67;refine(HWB.out _ (by first | exact Below.refl _ _ | exact Below.drew (Below.refl _ _) | exact below_drewN (Below.refl _ _) _)).mono ?_;rintro e w3 ⟨rfl,hW3,hF3⟩)
    all_goals
     go_wp2;refine bodyPost_ret (v:=.tuple #[]) (by simp[results,Tryz.results68,go_sem]) rfl ⟨rfl,?_,hF3⟩;rw[HVV.out];exact hW3
   ·have hq:((13:Int)==n)=false:=by simp;omega
    have HN:Hid (((0:Int)<5->n≠34)/\((1:Int)<5->n≠92)/\((2:Int)<5->n≠10)/\((3:Int)<5->n≠9)/\((4:Int)<5->n≠13)/\((5:Int)<5->n≠0)):=⟨fun _=>m0 (by decide),fun _=>m1 (by decide),fun _=>m2 (by decide),fun _=>m3 (by decide),fun _=>hc,fun h=>absurd h (by decide)⟩;have hw1:Below wr.heap.size wr (wr.alloc (.cells #[.int .u8 114,.int .i64 13] 140)):=below_alloc _ _;have HW2:Hid (Wt B b out (wr.alloc (.cells #[.int .u8 114,.int .i64 13] 140))):=HW1.out.later hw1;have HF2:Hid (Fr B b w (wr.alloc (.cells #[.int .u8 114,.int .i64 13] 140))):=HF1.out.trans (Fr.of hw1 (by omega));clear hw1 HW1 HF1 hc m0 m1 m2 m3 m4 m5;go_wp2;go_roundw
    case rel=>exact⟨5,by decide,by decide,rfl,HN.out.1,HN.out.2.1,HN.out.2.2.1,HN.out.2.2.2.1,HN.out.2.2.2.2.1,HN.out.2.2.2.2.2,HW2.out,HF2.out,by rw[World.size_alloc];omega⟩
    case measure=>simp[intOf]
  ·by_cases hc:n=0
   ·have hq:((0:Int)==n)=true:=by rw[hc];simp
    have HVV:Hid (V=[92,48]):=by rw[HV.out,hc];exact rfl
    have HNC:Hid (n=0):=hc;clear hc m0 m1 m2 m3 m4 m5;have hw1:Below wr.heap.size wr (wr.alloc (.cells #[.int .u8 48,.int .i64 0] 140)):=below_alloc _ _;have HW2:Hid (Wt B b out (wr.alloc (.cells #[.int .u8 48,.int .i64 0] 140))):=HW1.out.later hw1;have HF2:Hid (Fr B b w (wr.alloc (.cells #[.int .u8 48,.int .i64 0] 140))):=HF1.out.trans (Fr.of hw1 (by omega));have HX1:Hid ((wr.alloc (.cells #[.int .u8 48,.int .i64 0] 140)).heap[wr.heap.size]?=some (.cells #[.int .u8 48,.int .i64 0] 140 (0,0))):=heap_alloc_new wr _;have hsa:(wr.alloc (.cells #[.int .u8 48,.int .i64 0] 140)).heap.size=wr.heap.size+1:=World.size_alloc _ _;obtain⟨X,HXX⟩:∃ X,Hid (X=wr.heap.size):=⟨_,rfl⟩;have hXb:b<X:=by rw[HXX.out];exact HW1.out.lt
    clear hw1 HW1 HF1;go_wp2_with fail;refine(wByte 92 _ HW2.out (by omega) (by omega)).mono ?_;rintro e w2 ⟨rfl,hW2,hF2⟩;rw[<-HXX.out];rw[<-HXX.out]at HX1;have hX2:=hF2.keep HX1.out (by omega) (fun c fz e=>by cases e);have c0:w2.cell? ⟨X,0,none⟩=some (.int .u8 48):=by rw[Lib.cell_of_heap hX2];rfl
    have hs2:w.heap.size<=w2.heap.size:=by have:=hF2.1.size;omega
    have HWB:Hid (∀ W,Below w2.heap.size w2 W->Calls Tryz.prog 67 #[.pointer (some ⟨b,0,none⟩),.int .u8 48] W fun e w'=>e=.returned .nilIface/\(Wt B b (out++[92,48]) w'/\Fr B b w w')):=fun W hb=>two_bytes (X:=X) (by decide) 48 w2 W hW2 (HF2.out.trans hF2) hX2 hXb hb ho (by omega)
    clear hW2 hF2 hX2 HW2 HF2 HX1 HXX hsa;go_wp2;go_region_with (go_at_call 67;refine(HWB.out _ (by first | exact Below.refl _ _ | exact Below.drew (Below.refl _ _) | exact below_drewN (Below.refl _ _) _)).mono ?_;rintro e w3 ⟨rfl,hW3,hF3⟩)
    all_goals
     go_wp2;refine bodyPost_ret (v:=.tuple #[]) (by simp[results,Tryz.results68,go_sem]) rfl ⟨rfl,?_,hF3⟩;rw[HVV.out];exact hW3
   ·have hq:((0:Int)==n)=false:=by simp;omega
    have HN:Hid (((0:Int)<6->n≠34)/\((1:Int)<6->n≠92)/\((2:Int)<6->n≠10)/\((3:Int)<6->n≠9)/\((4:Int)<6->n≠13)/\((5:Int)<6->n≠0)):=⟨fun _=>m0 (by decide),fun _=>m1 (by decide),fun _=>m2 (by decide),fun _=>m3 (by decide),fun _=>m4 (by decide),fun _=>hc⟩;have hw1:Below wr.heap.size wr (wr.alloc (.cells #[.int .u8 48,.int .i64 0] 140)):=below_alloc _ _;have HW2:Hid (Wt B b out (wr.alloc (.cells #[.int .u8 48,.int .i64 0] 140))):=HW1.out.later hw1;have HF2:Hid (Fr B b w (wr.alloc (.cells #[.int .u8 48,.int .i64 0] 140))):=HF1.out.trans (Fr.of hw1 (by omega));clear hw1 HW1 HF1 hc m0 m1 m2 m3 m4 m5;go_wp2;go_roundw
    case rel=>exact⟨6,by decide,by decide,rfl,HN.out.1,HN.out.2.1,HN.out.2.2.1,HN.out.2.2.2.1,HN.out.2.2.2.2.1,HN.out.2.2.2.2.2,HW2.out,HF2.out,by rw[World.size_alloc];omega⟩
    case measure=>simp[intOf]
  ·have hE:esc n=if may n=true then u8s (byt n)else if n<256 then 92::120::hexL 2 n.toNat else if n<65536 then 92::117::hexL 4 n.toNat else 92::85::hexL 8 n.toNat:=by
    unfold esc;rw[if_neg (m0 (by decide)),if_neg (m1 (by decide)),if_neg (m3 (by decide)),if_neg (m2 (by decide)),if_neg (m4 (by decide)),if_neg (m5 (by decide))]
   clear m0 m1 m2 m3 m4 m5;have hs1':B<=wr.heap.size:=by omega
   cases hm:may n
   ·have HVV:Hid (V=if n<256 then 92::120::hexL 2 n.toNat else if n<65536 then 92::117::hexL 4 n.toNat else 92::85::hexL 8 n.toNat):=by rw[HV.out,hE,if_neg (by rw[hm];decide)];exact rfl
    obtain⟨N,hN⟩:∃ N:Nat,n=(N:Int):=⟨n.toNat,by omega⟩
    have HPN:Hid (Calls Tryz.prog 92 #[.pointer (some ⟨b,0,none⟩),.int .i64 n] wr fun e w'=>e=.returned (.tuple #[])/\Wt B b (out++V) w'/\Fr B b wr w'):=by
     have q:=putNumber_any N wr HW1.out (by omega) ho hs1' (HT.out _ HF1.out)
     have e1:V=if N<256 then 92::120::hexL 2 N else if N<65536 then 92::117::hexL 4 N else 92::85::hexL 8 N:=by
      rw[HVV.out,hN];have i1:((N:Int)<256)=(N<256):=by simp only[eq_iff_iff];omega
      have i2:((N:Int)<65536)=(N<65536):=by simp only[eq_iff_iff];omega
      simp only[i1,i2,Int.toNat_natCast]
     rw[<-e1,<-hN]at q;exact q
    have HN:Hid (n=(N:Int)):=hN;clear hN hE;go_wp2_with (first | (go_at_call 90;refine(stands_any _ _).mono ?_;rintro e w' ⟨rfl,rfl⟩));refine HPN.out.mono ?_;rintro e w2 ⟨rfl,hW2,hF2⟩;have HF2:Hid (Fr B b w w2):=HF1.out.trans hF2;clear hF2;go_wp2;go_end0;exact⟨rfl,hW2,HF2.out⟩
   ·have HVV:Hid (V=sgb n):=by rw[HV.out,hE,if_pos hm];unfold sgb;rw[if_pos HSG.out];exact rfl
    clear hE;go_wp2_with (first | (go_at_call 90;refine(stands_any _ _).mono ?_;rintro e w' ⟨rfl,rfl⟩));refine(putSign_any embW n out HW1.out (by omega) hs1').mono ?_;rintro e w2 ⟨rfl,hW2,hb2,hk2⟩;have HF2:Hid (Fr B b w w2):=HF1.out.trans ⟨hb2,hk2⟩;have HW2:Hid (Wt B b (out++V) w2):=by rw[HVV.out];exact hW2
    clear hW2 hb2 hk2;go_wp2;refine bodyPost_ret (v:=.tuple #[]) (by simp[results,Tryz.results68,go_sem]) rfl ⟨rfl,HW2.out,HF2.out⟩
end Quo
namespace Quo
open Utf Rws
open Go.RowKit
theorem escs_take (zs:List Int) (k:Nat) (h:k<zs.length):escs (zs.take (k+1))=escs (zs.take k)++esc (zs.getD k 0):=by
 unfold escs;rw[List.take_succ_eq_append_getElem h,List.flatMap_append,List.getD_eq_getElem?_getD,List.getElem?_eq_getElem h];simp
theorem u8s_le (n:Int):(u8s (byt n)).length<=4:=by rw[u8s_len];exact(byt_len n).2
theorem ite_le {p:Prop} [Decidable p] {a b:List UInt8} {m:Nat} (ha:a.length<=m) (hb:b.length<=m):(if p then a else b).length<=m:=by split<;>assumption
theorem esc_le (n:Int):(esc n).length<=10:=by
 unfold esc;refine ite_le (by decide) (ite_le (by decide) (ite_le (by decide) (ite_le (by decide) (ite_le (by decide) (ite_le (by decide) (ite_le (by have:=u8s_le n;omega) (ite_le ?_ (ite_le ?_ ?_))))))))
 all_goals simp[hexL_len]
theorem escs_le (zs:List Int):(escs zs).length<=10*zs.length:=by
 unfold escs
 induction zs with
 | nil=>simp
 | cons n zs ih=>have:=esc_le n;simp only[List.flatMap_cons,List.length_append,List.length_cons];omega
def dblS (l:List UInt8):List UInt8:=if (dec l).2=none then dbl l else []
def dblE (l:List UInt8):Int:=if (dec l).2=none then 0 else 8
theorem dblS_yes {l:List UInt8} (h:(dec l).2=none):dblS l=dbl l:=if_pos h
theorem dblE_yes {l:List UInt8} (h:(dec l).2=none):dblE l=0:=if_pos h
theorem dblS_no {l:List UInt8} (h:(dec l).2≠none):dblS l=[]:=if_neg h
theorem dblE_no {l:List UInt8} (h:(dec l).2≠none):dblE l=8:=if_neg h
theorem dec_len (m:Nat):∀ l:List UInt8,l.length<=m->(dec l).1.length<=l.length:=by
 induction m with
 | zero=>intro l h;have e:l=[]:=List.eq_nil_iff_length_eq_zero.2 (by omega);subst e;exact Nat.le_refl _
 | succ m ih =>
  intro l h;by_cases e:l=[]
  ·subst e;exact Nat.le_refl _
  ·have hp:=fk_pos l e;by_cases hn:(fst l).1<0
   ·rw[dec_bad l e hn];simp
   ·rw[dec_next l e hn];have:=ih (l.drop (fk l)) (by rw[List.length_drop];omega);rw[List.length_drop]at this;simp only[List.length_cons];omega
set_option maxHeartbeats 1000000 in
theorem double_any (l:List UInt8) (w:World) (hl:l.length<=4194304) (hT:Tabs w) :
  Calls Tryz.prog 45 #[.string (mk l)] w fun e w'=>e=.returned (.tuple #[.string (mk (dblS l)),.int .i64 (dblE l)])/\Below w.heap.size w w':=by
 have hdl:=dec_len l.length l (Nat.le_refl _);have HD:=decode_any (mk l) w (by rw[mk_size];omega) (by rw[mk_data];omega);rw[mk_data]at HD
 cases hd:(dec l).2 with
 | some p =>
  have HV:Hid (dblS l=[]/\dblE l=8):=⟨dblS_no (by rw[hd];simp),dblE_no (by rw[hd];simp)⟩
  have HDD:Hid (Calls Tryz.prog 66 #[.string (mk l)] w fun e w'=>∃ v,e=.returned (.tuple #[v,.agg #[.int .i64 8,.int .i64 (p:Int)]])/\Below w.heap.size w w'):=HD.mono (by
   rintro e w' ⟨v,h1,h2,h3⟩;rw[hd]at h1;exact⟨v,h1,h3⟩)
  clear HD hd hT hdl;go_enter Tryz.func45,Tryz.ntmps45;go_wp2_with fail;refine HDD.out.mono ?_;rintro e w1 ⟨v,rfl,hb1⟩;go_wp2;go_quiet (fail);go_wp2;go_ret2;rw[HV.out.1,HV.out.2];exact⟨rfl,below_drewN (hb1.trans ((below_alloc _ _).mono hb1.size)) _⟩
 | none =>
  obtain⟨zs,hz⟩:∃ zs,zs=(dec l).1:=⟨_,rfl⟩
  have hS:∀ n∈zs,sgn n=true:=fun n hn=>by
   have:=((dec_sound l.length l (Nat.le_refl _)).1 hd).1;unfold allS at this;exact List.all_eq_true.1 this n (by rw[<-hz];exact hn)
  have HV:Hid (mk (dblS l)=mk (34::(escs zs++[34]))/\dblE l=0):=⟨by rw[dblS_yes hd];unfold dbl;rw[hz],dblE_yes hd⟩
  have HDD:Hid (Calls Tryz.prog 66 #[.string (mk l)] w fun e w'=>∃ a cap,e=.returned (.tuple #[.slice a zs.length cap,.agg #[.int .i64 0,.int .i64 0]])/\Ints w' a zs.length zs/\Below w.heap.size w w'):=HD.mono (by
   rintro e w' ⟨v,h1,h2,h3⟩;rw[hd]at h1;unfold decXs at h2;rw[if_pos hd,<-hz]at h2;obtain⟨a,cap,rfl,hI⟩:=ints_of_own h2;exact⟨a,cap,h1,hI,h3⟩)
  rw[<-hz]at hdl;have hle:=escs_le zs;obtain⟨M,hM⟩:∃ M,M=zs.length:=⟨_,rfl⟩;have HM:Hid (M=zs.length):=hM;rw[<-hM]at HDD hdl hle;have HS:Hid (∀ n∈zs,sgn n=true):=hS;have HT:Hid (Tabs w):=hT;rw[HV.out.1,HV.out.2];clear HD hd hS hz hM hT;go_enter Tryz.func45,Tryz.ntmps45;go_wp2_with fail;refine HDD.out.mono ?_;rintro e w1 ⟨a,cap,rfl,hI,hb1⟩;have hs1:=hb1.size;obtain⟨w2,hw2⟩:∃ w2,w2=w1.alloc (.cells #[.int .i64 0,.int .i64 0] 33):=⟨_,rfl⟩;obtain⟨w3,hw3⟩:∃ w3,w3=w2.alloc (.cells #[.pointer none,.slice none 0 0] 116):=⟨_,rfl⟩;have hs2:w2.heap.size=w1.heap.size+1:=by rw[hw2];simp
  have hs3:w3.heap.size=w1.heap.size+2:=by rw[hw3];simp[hs2]
  have hb12:Below w1.heap.size w1 w2:=by rw[hw2];exact below_alloc _ _
  have hb23:Below w2.heap.size w2 w3:=by rw[hw3];exact below_alloc _ _
  have hb13:Below w1.heap.size w1 w3:=hb12.trans (hb23.mono (by omega))
  have hW3:Wt (w1.heap.size+1) (w1.heap.size+1) [] w3:=by
   have q:=bld_new w2 116 [];rw[hs2,<-hw3]at q;exact q
  have HW3:Hid (Wt (w1.heap.size+1) (w1.heap.size+1) [] w3):=hW3;have HI3:Hid (Ints w1 a M zs):=hI;have HB13:Hid (Below w1.heap.size w1 w3):=hb13;have HT3:Hid (Tabs w3):=(HT.out.later hb1).later hb13;have HB3:Hid (Below w.heap.size w w3):=hb1.trans (hb13.mono hs1);have HW:Hid (w3=(w1.alloc (.cells #[.int .i64 0,.int .i64 0] 33)).alloc (.cells #[.pointer none,.slice none 0 0] 116)):=by rw[<-hw2,<-hw3];exact rfl
  have h2:2<=w1.heap.size+1:=by have:=HT.out.size;omega
  clear hI hb1 hb12 hb23 hb13 hW3 hw2 hw3 HT HDD hs2;go_wp2_with fail;rw[<-HW.out];refine(wByte 34 w3 HW3.out (by simp) (by omega)).mono ?_;rintro e w4 ⟨rfl,hW4,hF4⟩;rw[List.nil_append]at hW4;have HW4:Hid (Wt (w1.heap.size+1) (w1.heap.size+1) [34] w4):=hW4;have HF4:Hid (Fr (w1.heap.size+1) (w1.heap.size+1) w3 w4):=hF4;clear hW4 hF4 HW HW3;go_wp2
  go_loopw [24] (fun i wr=>∃ k:Nat,k<=M/\i=.int .i64 (k:Int)/\Wt (w1.heap.size+1) (w1.heap.size+1) (34::escs (zs.take k)) wr/\Fr (w1.heap.size+1) (w1.heap.size+1) w3 wr) (fun i _=>M-(intOf i).toNat)
  case atStart=>exact⟨0,Nat.zero_le _,rfl,HW4.out,HF4.out⟩
  case round =>
   clear HW4 HF4;obtain⟨k,hk,rfl,hW5,hF5⟩:=hrel;have HW5:Hid (Wt (w1.heap.size+1) (w1.heap.size+1) (34::escs (zs.take k)) wr):=hW5;have HF5:Hid (Fr (w1.heap.size+1) (w1.heap.size+1) w3 wr):=hF5;have hs5:=hF5.1.size;have hel:(escs (zs.take k)).length<=10*k:=by have:=escs_le (zs.take k);have:=List.length_take_le k zs;omega
   have HFB:Hid (∀ W,Fr (w1.heap.size+1) (w1.heap.size+1) w3 W->Below w.heap.size w W):=fun W hF=>HB3.out.trans (hF.1.mono (by omega))
   clear hW5 hF5;by_cases hlt:k<M
   ·have hkz:k<zs.length:=by rw[<-HM.out];exact hlt
    obtain⟨b',off,rfl,hbb,hc⟩:=HI3.out.2 (by omega);have hck:=((HB13.out.trans (HF5.out.1.mono (by omega))).cell (p:=⟨b',off+k,none⟩) hbb).trans (hc k hlt);have hsn:=HS.out (zs.getD k 0) (by rw[List.getD_eq_getElem?_getD,List.getElem?_eq_getElem hkz];simp);have HE:Hid (34::escs (zs.take (k+1))=(34::escs (zs.take k))++esc (zs.getD k 0)):=by rw[escs_take zs k hkz];exact rfl
    generalize zs.getD k 0=n at *;have HSN:Hid (sgn n=true):=hsn;have HT5:Hid (Tabs wr):=HT3.out.under HF5.out.1 h2;clear hc hsn hkz;go_wp2_with fail;refine(put_any n wr HW5.out HSN.out (by simp;omega) (by omega) HT5.out h2).mono ?_;rintro e w5 ⟨rfl,hW6,hF6⟩;rw[<-HE.out]at hW6;have HW6:Hid (Wt (w1.heap.size+1) (w1.heap.size+1) (34::escs (zs.take (k+1))) w5):=hW6;have HF6:Hid (Fr (w1.heap.size+1) (w1.heap.size+1) w3 w5):=HF5.out.trans hF6;clear hW6 hF6 HW5 HF5 HT5 hck;go_wp2;go_roundw
    case rel=>exact⟨k+1,by omega,by go_num,HW6.out,HF6.out⟩
    case measure=>simp[intOf];omega
   ·have HE:Hid (34::escs (zs.take k)++[34]=34::(escs zs++[34])):=by rw[List.take_of_length_le (by rw[<-HM.out];omega)];exact rfl
    go_wp2_with fail;refine(wByte 34 wr HW5.out (by simp;omega) (by omega)).mono ?_;rintro e w6 ⟨rfl,hW6,hF6⟩;rw[HE.out]at hW6;have HW6:Hid (Wt (w1.heap.size+1) (w1.heap.size+1) (34::(escs zs++[34])) w6):=hW6;have HF6:Hid (Fr (w1.heap.size+1) (w1.heap.size+1) w3 w6):=HF5.out.trans hF6;have hs6:=hF6.1.size;clear hW6 hF6;go_wp2_with fail;refine(string_any _ HW6.out (by omega)).mono ?_;rintro e w7 ⟨rfl,_,hb7,hk7⟩;go_wp2;go_ret2;exact⟨rfl,HFB.out _ (HF6.out.trans ⟨hb7,hk7⟩)⟩
end Quo
namespace Flw
open Utf Rws Pln
open Go.RowKit
theorem dbl_len (l:Ln):(Quo.dbl l).length<=10*l.length+2:=by
 unfold Quo.dbl;have h1:=Quo.escs_le (dec l).1;have h2:=Quo.dec_len l.length l (Nat.le_refl _);simp only[List.length_cons,List.length_append,List.length_nil];omega
theorem scl_len (f:Bool) (k:Int) (s:Ln):(scl f k s).length<=10*s.length+4:=by
 have:=dbl_len s;unfold scl;split
 ·simp
 split
 ·omega
 split
 ·split
  ·omega
  ·split
   ·omega
   ·simp
 ·simp
theorem ancW_len (a:Ln):(ancW a).length<=a.length+2:=by
 unfold ancW;split
 ·simp
 ·simp
theorem sep_len (map:Bool) (i:Nat):(sep map i).length<=2:=by
 unfold sep;split
 ·simp
 split<;>simp
end Flw
namespace Tre
open Utf Rws Pln Flw
open Go.RowKit
open Blk (Rw lo rws joinW trm fld headO)
def lyS (f:Tr->List (Int × Ln)) (c:Int):List Tr->List (Int × Ln)
 | []=>[]
 | k::ks=>(c,[45])::(f k++lyS f c ks)
def lyM (f:Tr->List (Int × Ln)) (c:Int):List Tr->List (Int × Ln)
 | k::v::ks=>(c,wrt 64 k++[58])::(f v++lyM f c ks)
 | _=>[]
def lyC (t:Tr) (c:Int):Int:=if t.anc=[]then c else c+1
def lyo:Nat->Tr->Int->List (Int × Ln)
 | 0,t,c=>[(c,wrt 64 t)]
 | d+1,t,c=>if t.kids.isEmpty=true then [(c,wrt 64 t)]else (if t.anc=[]then []else [(c,38::t.anc)]) ++
   (if t.kind=6 then lyM (fun k=>lyo d k (lyC t c+2)) (lyC t c) t.kids else lyS (fun k=>lyo d k (lyC t c+2)) (lyC t c) t.kids)
def nrw:Nat->List (Int × Ln)->List Rw
 | _,[]=>[]
 | z,p::l=>(p.1,p.2,(z:Int))::nrw (z+1) l
theorem nrw_len:∀ (l:List (Int × Ln)) (z:Nat),(nrw z l).length=l.length
 | [],_=>rfl
 | p::l,z=>by rw[nrw,List.length_cons,nrw_len l,List.length_cons]
theorem nrw_app:∀ (a b:List (Int × Ln)) (z:Nat),nrw z (a++b)=nrw z a++nrw (z+a.length) b
 | [],b,z=>rfl
 | p::a,b,z=>by
  rw[List.cons_append,nrw,nrw,nrw_app a b (z+1),List.cons_append,List.length_cons,show z+1+a.length=z+(a.length+1) by omega]
theorem nrw_mem:∀ (l:List (Int × Ln)) (z:Nat) (r:Rw),r∈nrw z l->(r.1,r.2.1)∈l
 | [],_,r,h=>by cases h
 | p::l,z,r,h=>by
  rw[nrw]at h;rcases List.mem_cons.1 h with rfl | h
  ·exact List.mem_cons_self
  ·exact List.mem_cons_of_mem _ (nrw_mem l (z+1) r h)
def kyL (mp:Bool) (f:Tr->Bool):Nat->List Tr->Bool
 | _,[]=>true
 | i,k::ks=>(!(mp && i % 2==0 && (decide (256<k.text.length) || (decide (k.kind=4) && k.text==[]))) && f k) && kyL mp f (i+1) ks
def kyB:Nat->Tr->Nat->Bool
 | 0,_,deep=>decide (deep<20)
 | d+1,t,deep=>kyL (decide (t.kind=6)) (fun k=>kyB d k (deep+1)) 0 t.kids && decide (deep<20)
structure Gm (m:Ln):Prop where
 ne:m≠[]
 h32:hd m≠32
 h38:hd m≠38
 h33:hd m≠33
 h35:hd m≠35
 h124:hd m≠124
 h62:hd m≠62
 it:isIt m=false
theorem rd_off {l:Ln} (h:hd l≠39/\hd l≠34):(Quo.rd l).2.2.1≠0:=by
 unfold Quo.rd;by_cases e:l=[]
 ·rw[if_pos e];decide
 ·rw[if_neg e,if_neg (fun g=>g.elim h.1 h.2)];decide
theorem isEn_mark {l:Ln} (h:mrk (hd l)=true) (h1:hd l≠39/\hd l≠34):isEn l=false:=by
 have h2:isP (cutT l false) false=false:=by
  obtain⟨n,_,e⟩:=cutT_take l false
  cases hq:isP (cutT l false) false with
  | false=>rfl
  | true =>
   have:=isP_hd hq;have hne:=isP_ne hq;rw[e]at this hne
   cases l with
   | nil=>exact absurd (by simp) hne
   | cons b r =>
    cases n with
    | zero=>exact absurd rfl hne
    | succ n =>
     rw[List.take_succ_cons,hd_cons]at this;rw[hd_cons]at h;rw[h]at this;exact absurd this.1 (by decide)
 unfold isEn ckB;rw[if_neg (rd_off h1),h2];rfl
theorem isIt_off {l:Ln} (h:hd l≠45):isIt l=false:=by
 unfold isIt;simp[h]
theorem isIt_plain {s:Ln} {f:Bool} (h:isP s f=true):isIt s=false:=by
 cases hq:isIt s with
 | false=>rfl
 | true =>
  exfalso;unfold isIt eMk at hq;unfold isP bg at h
  cases s with
  | nil=>exact absurd hq (by decide)
  | cons b r =>
   rw[hd_cons]at hq;simp only[Bool.and_eq_true,beq_iff_eq,List.drop_succ_cons,List.drop_zero,Bool.or_eq_true]at hq;obtain⟨rfl,hq⟩:=hq;rcases hq with rfl | hq
   ·simp at h
   ·cases r with
    | nil=>simp at h
    | cons b2 r2 =>
     rw[hd_cons]at hq;subst hq;simp at h
theorem isEn_nil:isEn ([]:Ln)=false:=by
 have hr:=rd_off (l:=[]) (by decide);unfold isEn ckB;rw[if_neg hr]
 have:cutT [] false=[]:=by
  obtain⟨n,_,e⟩:=cutT_take [] false;rw[e,List.take_nil]
 rw[this];rfl
theorem isEn_plain {s:Ln} (h:isP s false=true):isEn s=false:=by
 have hh:=isP_hd h;have hne:=mrk_ne hh.1;have hr:=rd_off ⟨hne.2.2.2.1,hne.2.2.2.2.1⟩;unfold isEn
 have e:ckR s=[]:=by
  unfold ckR;rw[if_neg hr,cutT_whole h,if_pos h,isP_fin h,List.drop_length]
 rw[e];simp[hd_nil]
theorem isEn_dbl {s:Ln} (h:(dec s).2=none):isEn (Quo.dbl s)=false:=by
 have hr:=Quo.rd_double s [] h;rw[List.append_nil]at hr;unfold isEn
 have e:ckR (Quo.dbl s)=[]:=by
  unfold ckR;rw[hr,if_pos rfl,List.drop_length];rfl
 rw[e];simp[hd_nil]
theorem Gm_plain {s:Ln} {f:Bool} (h:isP s f=true):Gm s:=by
 have hh:=isP_hd h;have hm:∀ c:UInt8,mrk c=true->hd s≠c:=fun c hc e=>by rw[e,hc]at hh;exact absurd hh.1 (by decide)
 exact⟨isP_ne h,hh.2,hm _ (by decide),hm _ (by decide),hm _ (by decide),hm _ (by decide),hm _ (by decide),isIt_plain h⟩
theorem Gm_hd {s:Ln} {c:UInt8} (h:hd s=c) (h0:s≠[]) (hc:c=34\/c=42\/c=91\/c=123):Gm s:=by
 rcases hc with rfl | rfl | rfl | rfl <;>
 exact⟨h0,by rw[h];decide,by rw[h];decide,by rw[h];decide,by rw[h];decide,by rw[h];decide,by rw[h];decide,isIt_off (by rw[h];decide)⟩
theorem Gm_scl {k:Int} {s:Ln} (h1:1<=k) (h4:k<=4) (ht:txt k s=true):Gm (scl true k s)/\isEn (scl true k s)=false:=by
 rcases scl_cases h1 h4 ht with ⟨hP,_⟩ | ⟨rfl,e,hdec⟩
 ·exact⟨Gm_plain hP,isEn_plain (isP_flow _ hP)⟩
 ·rw[e];obtain⟨r,er⟩:=dbl_hd s;exact⟨Gm_hd (c:=34) (by rw[er];rfl) (by rw[er];simp) (.inl rfl),isEn_dbl hdec⟩
theorem key_row {k:Int} {s:Ln} (h1:1<=k) (h4:k<=4) (ht:txt k s=true) :
  Gm (scl true k s++[58])/\isEn (scl true k s++[58])=true/\enT (scl true k s++[58])=⟨k,s,[],[]⟩/\enR (scl true k s++[58])=[]:=by
 rcases scl_cases h1 h4 ht with ⟨hP,hL⟩ | ⟨rfl,e,hdec⟩
 ·generalize scl true k s=m at hP hL;have hG:=Gm_plain hP;have hF:=isP_flow _ hP;have hh:=isP_hd hP;have hne:=mrk_ne hh.1;have h0:=isP_ne hP;have eh:hd (m++[58])=hd m:=hd_app _ h0;have hr:=rd_off (l:=m++[58]) (by rw[eh];exact⟨hne.2.2.2.1,hne.2.2.2.2.1⟩)
  have hfin:fin (m++[58]) false=m.length:=by
   refine fin_uniq _ _ _ (by simp) (fun j hj=> ?_) (.inr ?_)
   ·have hno:en m false j=false:=fin_no m false j (by rw[isP_fin hF];exact hj);have g2:(m++[58]).getD j 0=m.getD j 0:=getD_app_left _ _ _ hj;have g3:(m++[58]).getD (j-1) 0=m.getD (j-1) 0:=getD_app_left _ _ _ (by omega);unfold en at hno |-;rw[g2,g3];by_cases c1:(m.getD j 0==58)=true
    ·rw[if_pos c1]at hno |-;simp only[Bool.or_eq_false_iff,Bool.and_eq_false_iff,beq_eq_false_iff_ne]at hno |-
     have hj1:j+1<m.length:=by
      have:=hno.1.1;omega
     have g4:(m++[58]).getD (j+1) 0=m.getD (j+1) 0:=getD_app_left _ _ _ hj1;rw[g4];refine⟨⟨?_,hno.1.2⟩,.inl trivial⟩;rw[List.length_append];simp only[List.length_cons,List.length_nil];omega
    ·rw[if_neg c1]at hno |-;exact hno
   ·have g0:(m++[58]).getD m.length 0=58:=getD_app_right m [58] 0;unfold en;rw[g0,if_pos (by decide)];simp
  have hcut:cutT (m++[58]) false=m:=by
   unfold cutT;rw[hfin,List.take_left]
   exact trR_keep _ _ h0 (by
    have:=isP_last hF;simpa [is32]using this)
  have hcb:ckB (m++[58])=true:=by unfold ckB;rw[if_neg hr,hcut,hF]
  have hcr:ckR (m++[58])=[58]:=by unfold ckR;rw[if_neg hr,hcut,if_pos hF,hfin,List.drop_left]
  have hct:ckT (m++[58])=⟨k,s,[],[]⟩:=by
   unfold ckT;rw[if_neg hr,hcut,if_pos hF];exact hL []
  have hen:isEn (m++[58])=true:=by
   unfold isEn;rw[hcb,hcr];decide
  refine⟨⟨by simp,by rw[eh];exact hG.h32,by rw[eh];exact hG.h38,by rw[eh];exact hG.h33,by rw[eh];exact hG.h35,by rw[eh];exact hG.h124,by rw[eh];exact hG.h62,?_⟩,hen,?_,?_⟩
  ·cases hq:isIt (m++[58])with
   | false=>rfl
   | true =>
    exfalso;have hi:=hG.it;unfold isIt eMk at hq hi;rw[eh]at hq
    cases m with
    | nil=>exact h0 rfl
    | cons b r =>
     cases r with
     | nil=>exact absurd hq (by simp[hd_cons])
     | cons b2 r2 =>
      simp only[List.cons_append,List.drop_succ_cons,List.drop_zero,hd_cons]at hq hi;rw[show ((b2::(r2++[58]):Ln)==[])=false from rfl]at hq;rw[show ((b2::r2:Ln)==[])=false from rfl]at hi;rw[hi]at hq;exact absurd hq (by decide)
  ·unfold enT;rw[if_pos hen,hct]
  ·unfold enR;rw[if_pos hen,hcr];rfl
 ·rw[e];obtain⟨r,er⟩:=dbl_hd s;have hr:=Quo.rd_double s [58] hdec;have eh:hd (Quo.dbl s++[58])=34:=by rw[er];rfl
  have hcb:ckB (Quo.dbl s++[58])=true:=by unfold ckB;rw[hr,if_pos rfl]
  have hcr:ckR (Quo.dbl s++[58])=[58]:=by
   unfold ckR;rw[hr,if_pos rfl,List.drop_left];rfl
  have hct:ckT (Quo.dbl s++[58])=⟨4,s,[],[]⟩:=by unfold ckT;rw[hr,if_pos rfl]
  have hen:isEn (Quo.dbl s++[58])=true:=by
   unfold isEn;rw[hcb,hcr];decide
  refine⟨Gm_hd eh (by rw[er];simp) (.inl rfl),hen,?_,?_⟩
  ·unfold enT;rw[if_pos hen,hct]
  ·unfold enR;rw[if_pos hen,hcr];rfl
theorem cp_anc {a m:Ln} (ha:isName a=true) (hg:Gm m):CP ⟨[],0⟩ (38::(a++32::m))=(⟨a,0⟩,m):=by
 have hal:a.all letter=true:=by
  unfold isName at ha;simp only[Bool.and_eq_true]at ha;exact ha.1.1
 have hn32:∀ x∈a,(x != 32)=true:=fun x hx=>by
  have:=List.all_eq_true.1 hal x hx;rw[bne_iff_ne];rintro rfl;exact absurd this (by decide)
 have hw:wrd (38::(a++32::m))=38::a:=by
  unfold wrd;rw[List.takeWhile_cons,if_pos (by decide),List.takeWhile_append_of_pos hn32,List.takeWhile_cons,if_neg (by decide),List.append_nil]
 have hb:beh (38::(a++32::m))=m:=by
  unfold beh;rw[hw];simp
 have hgp:gaps (38::(a++32::m))=38::(a++32::m):=gaps_cons _ (by decide);have hne:=isName_hd ha
 have e1:wth ⟨[],0⟩ (38::a)=⟨a,0⟩:=by
  unfold wth;rw[hd_cons,if_pos rfl];simp[ha]
 have hs:samePp (⟨a,0⟩:Pp) ⟨[],0⟩=false:=by
  unfold samePp;simp[hne]
 rw[CP_step (by rw[hgp,hw,e1];exact hs),hgp,hw,hb,e1];have hgm:gaps m=m:=gaps_of hg.h32
 have hwm:hd (wrd m)=hd m:=by
  cases m with
  | nil=>rfl
  | cons b r =>
   have:=hg.h32;rw[hd_cons]at this;unfold wrd;rw[List.takeWhile_cons,if_pos (by rw[bne_iff_ne];exact this)];rfl
 have ht:tgw (wrd m)=0:=by
  have hne:∀ x:Ln,wrd m≠33::x:=fun x e=>hg.h33 (by rw[<-hwm,e];rfl)
  unfold tgw;rw[if_neg (hne _),if_neg (hne _),if_neg (hne _),if_neg (hne _),if_neg (hne _),if_neg (hne _)]
 have e2:wth ⟨a,0⟩ (wrd m)=⟨a,0⟩:=by
  unfold wth;rw[if_neg (by rw[hwm];exact hg.h38),if_pos rfl,ht]
 rw[CP_end (by rw[hgm,e2];unfold samePp;simp),hgm]
theorem CP_name {a:Ln} (ha:isName a=true):CP ⟨[],0⟩ (38::a)=(⟨a,0⟩,[]):=by
 have hal:a.all letter=true:=by
  unfold isName at ha;simp only[Bool.and_eq_true]at ha;exact ha.1.1
 have hn32:∀ x∈a,(x != 32)=true:=fun x hx=>by
  have:=List.all_eq_true.1 hal x hx;rw[bne_iff_ne];rintro rfl;exact absurd this (by decide)
 have hw:wrd (38::a)=38::a:=by
  unfold wrd;rw[List.takeWhile_cons,if_pos (by decide)];have:=List.takeWhile_append_of_pos (l₂:=[]) hn32;rw[List.append_nil,List.takeWhile_nil,List.append_nil]at this;rw[this]
 have hb:beh (38::a)=[]:=by
  unfold beh;rw[hw,List.drop_eq_nil_iff];omega
 have hgp:gaps (38::a)=38::a:=gaps_cons _ (by decide);have hne:=isName_hd ha
 have e1:wth ⟨[],0⟩ (38::a)=⟨a,0⟩:=by
  unfold wth;rw[hd_cons,if_pos rfl];simp[ha]
 have hs:samePp (⟨a,0⟩:Pp) ⟨[],0⟩=false:=by
  unfold samePp;simp[hne]
 rw[CP_step (by rw[hgp,hw,e1];exact hs),hgp,hw,hb,e1]
 have e2:wth ⟨a,0⟩ (wrd (gaps []))=⟨a,0⟩:=by
  unfold wth;rw[if_neg (by decide),if_pos rfl];rfl
 rw[CP_end (by rw[e2];unfold samePp;simp)];rfl
theorem leaf_txt {inner:Option (Tr->Bool)} {iw:Tr->Ln} {t:Tr} (h:rstep inner t=true) (hk:t.kids=[]) :
  noth (wstep iw t)=false/\isIt (wstep iw t)=false/\isEn (wstep iw t)=false/\∃ a m,CP ⟨[],0⟩ (wstep iw t)=(⟨a,0⟩,m)/\Gm m:=by
 obtain⟨h1,h7,ha,ht,h0,_⟩:=rstep_inv h
 have key:∀ m:Ln,Gm m->isEn m=false->(t.anc=[]\/isName t.anc=true)->noth (ancW t.anc++m)=false/\isIt (ancW t.anc++m)=false/\isEn (ancW t.anc++m)=false/\∃ a m',CP ⟨[],0⟩ (ancW t.anc++m)=(⟨a,0⟩,m')/\Gm m':=by
  intro m hg he hq;by_cases ea:t.anc=[]
  ·rw[ea];show noth m=false/\isIt m=false/\isEn m=false/\∃ a m',CP ⟨[],0⟩ m=(⟨a,0⟩,m')/\Gm m';exact⟨noth_no hg.ne hg.h35,hg.it,he,[],m,CP_same hg.ne hg.h32 hg.h38 hg.h33,hg⟩
  ·rw[ancW_app ea];exact⟨noth_no (by simp) (by rw[hd_cons];decide),isIt_off (by rw[hd_cons];decide),isEn_mark (by rw[hd_cons];decide) (by rw[hd_cons];decide),t.anc,m,cp_anc (hq.resolve_left ea) hg,hg⟩
 have two:∀ b c:UInt8,(b=91\/b=123)->Gm [b,c]/\isEn [b,c]=false:=fun b c hb=>by
  refine⟨Gm_hd (c:=b) rfl (by simp) (by rcases hb with rfl | rfl<;>simp),isEn_mark (by rw[hd_cons];rcases hb with rfl | rfl<;>decide) (by rw[hd_cons];rcases hb with rfl | rfl<;>decide)⟩
 unfold wstep;by_cases e:t.kind=7
 ·rw[if_pos e];have hg:Gm (42::t.anc):=Gm_hd (c:=42) rfl (by simp) (by simp);exact⟨noth_no hg.ne hg.h35,hg.it,isEn_mark (by rw[hd_cons];decide) (by rw[hd_cons];decide),[],_,CP_same hg.ne hg.h32 hg.h38 hg.h33,hg⟩
 ·have ha':t.anc=[]\/isName t.anc=true:=by
   rcases ha with ⟨h,_⟩ | h
   ·exact .inl h
   ·exact .inr h
  rw[if_neg e];by_cases e4:1<=t.kind/\t.kind<=4
  ·rw[if_pos e4];have hh:=Gm_scl e4.1 e4.2 ht;exact key _ hh.1 hh.2 ha'
  ·rw[if_neg e4,hk];by_cases e6:t.kind=6
   ·rw[if_pos e6,if_pos e6];have:=two 123 125 (.inr rfl);exact key _ this.1 this.2 ha'
   ·rw[if_neg e6,if_neg e6];have:=two 91 93 (.inl rfl);exact key _ this.1 this.2 ha'
theorem leaf_len {inner:Option (Tr->Bool)} {iw:Tr->Ln} {t:Tr} (h:rstep inner t=true) (hk:t.kids=[]) (hx:t.text.length<=3000) (ha:t.anc.length<=3000):(wstep iw t).length<=65536:=by
 have h1:=scl_len true t.kind t.text;have h2:=ancW_len t.anc;unfold wstep;rw[hk];split
 ·rw[List.length_cons];omega
 ·split
  ·rw[List.length_append];omega
  ·rw[List.length_append];simp[jn];omega
def Sfx:Prop:=∀ l:Ln,l.length<=65536->∀ x,lval 64 false l=.ok x->∃ q,q<=l.length/\x.2=l.drop q
theorem line_leaf (hS:Sfx) {t:Tr} (h:rgt 64 t=true) (hl:(wrt 64 t).length<=65536) (c z:Int):lnM c z (wrt 64 t) []=(t,0,0):=by
 have hv:=val_wrt 64 t h false [] (.inl rfl);rw[List.append_nil]at hv;have hr:=val_l 64 false (wrt 64 t);rw[hv]at hr;obtain⟨m,e,hm⟩:=hr;obtain⟨q,hq,hx⟩:=hS _ hl _ e;simp only at hx
 have e1:(wrt 64 t).drop ((wrt 64 t).length-m.length)=m:=by
  rw[hx,List.length_drop,show (wrt 64 t).length-((wrt 64 t).length-q)=q by omega]
 unfold lnM rea;rw[e];simp only;rw[if_neg (by decide),e1];have e2:eLn m=true:=by unfold eLn;rw[hm];rfl
 rw[e2,if_neg (by decide)];rfl
theorem dpn_pre {c:Int} (a:List (Int × Ln)) (z:Nat) (b:List Rw) (h:∀ p∈a,c<p.1) (hb:∀ r t,b=r::t->noth r.2.1=false/\r.1=c):dpn (nrw z a++b) c=a.length:=by
 have h1:∀ r∈nrw z a,dpr c r=true:=fun r hr=>by
  have:=h _ (nrw_mem a z r hr);unfold dpr;simp only at this;simp[this]
 unfold dpn;rw[List.takeWhile_append_of_pos h1,List.length_append,nrw_len]
 cases b with
 | nil=>rfl
 | cons r t =>
  obtain⟨h2,h3⟩:=hb r t rfl;rw[List.takeWhile_cons,if_neg (by unfold dpr;rw[h2,h3];simp)];rfl
theorem seq_ki (part:Rw->List Rw->List Tr × Int × Int) (f:Tr->List (Int × Ln)) (c:Int):∀ (ks:List Tr) (k:Tr) (N z:Nat) (acc:List Tr),
  (∀ k'∈k::ks,(∀ p∈f k',c<p.1)/\∀ z z':Nat,part (c,[45],(z:Int)) (nrw z' (f k'))=([k'],0,0))->(f k++lyS f c ks).length<N ->
  kiM part c N (c,[45],(z:Int)) (nrw (z+1) (f k++lyS f c ks)) acc=(acc++k::ks,0,0)
 | ks,k,0,z,acc,_,h=>absurd h (Nat.not_lt_zero _)
 | ks,k,N+1,z,acc,hp,hN=>by
  obtain⟨hc,hpk⟩:=hp k List.mem_cons_self
  have hd:dpn (nrw (z+1) (f k++lyS f c ks)) c=(f k).length:=by
   rw[nrw_app];refine dpn_pre _ _ _ hc (fun r t e=> ?_)
   cases ks with
   | nil=>cases e
   | cons k2 ks2 =>
    rw[lyS,nrw]at e;cases e;exact⟨(by show noth [45]=false;decide),rfl⟩
  have ht:(nrw (z+1) (f k++lyS f c ks)).take (f k).length=nrw (z+1) (f k):=by
   rw[nrw_app,<-nrw_len (f k) (z+1),List.take_left]
  have hdr:(nrw (z+1) (f k++lyS f c ks)).drop (f k).length=nrw (z+1+(f k).length) (lyS f c ks):=by
   rw[nrw_app];have:=List.drop_left (l₁:=nrw (z+1) (f k)) (l₂:=nrw (z+1+(f k).length) (lyS f c ks));rw[nrw_len]at this;exact this
  rw[kiM,hd,ht,hdr,hpk];simp only;rw[if_neg (by decide)]
  cases ks with
  | nil=>rfl
  | cons k2 ks2 =>
   rw[lyS,nrw];simp only
   rw[if_neg (by omega),seq_ki part f c ks2 k2 N _ _ (fun k' h'=>hp k' (List.mem_cons_of_mem _ h')) (by
    rw[lyS]at hN;simp only[List.length_append,List.length_cons]at hN |-;omega),List.append_assoc]
   rfl
def PrM (C:Tr->Tr->Prop):List Tr->Prop
 | []=>True
 | [_]=>False
 | k::v::ks=>C k v/\PrM C ks
theorem map_ki (part:Rw->List Rw->List Tr × Int × Int) (f:Tr->List (Int × Ln)) (c:Int):∀ (ks:List Tr) (k v:Tr) (N z:Nat) (acc:List Tr),
  PrM (fun k v=>noth (wrt 64 k++[58])=false/\(∀ p∈f v,c<p.1)/\∀ z z':Nat,part (c,wrt 64 k++[58],(z:Int)) (nrw z' (f v))=([k,v],0,0)) (k::v::ks)->(f v++lyM f c ks).length<N ->
  kiM part c N (c,wrt 64 k++[58],(z:Int)) (nrw (z+1) (f v++lyM f c ks)) acc=(acc++k::v::ks,0,0)
 | ks,k,v,0,z,acc,_,h=>absurd h (Nat.not_lt_zero _)
 | ks,k,v,N+1,z,acc,hp,hN=>by
  obtain⟨⟨_,hc,hpk⟩,hrest⟩:=hp
  have hd:dpn (nrw (z+1) (f v++lyM f c ks)) c=(f v).length:=by
   rw[nrw_app];refine dpn_pre _ _ _ hc (fun r t e=> ?_)
   match ks,hrest,e with
   | [],_,e=>cases e
   | [_],h,_=>exact h.elim
   | k2::v2::ks2,h,e =>
    rw[lyM,nrw]at e;cases e;exact⟨h.1.1,rfl⟩
  have ht:(nrw (z+1) (f v++lyM f c ks)).take (f v).length=nrw (z+1) (f v):=by
   rw[nrw_app,<-nrw_len (f v) (z+1),List.take_left]
  have hdr:(nrw (z+1) (f v++lyM f c ks)).drop (f v).length=nrw (z+1+(f v).length) (lyM f c ks):=by
   rw[nrw_app];have:=List.drop_left (l₁:=nrw (z+1) (f v)) (l₂:=nrw (z+1+(f v).length) (lyM f c ks));rw[nrw_len]at this;exact this
  rw[kiM,hd,ht,hdr,hpk];simp only;rw[if_neg (by decide)]
  match ks,hrest,hN with
  | [],_,_=>rfl
  | [_],h,_=>exact h.elim
  | k2::v2::ks2,h,hN =>
   rw[lyM,nrw];simp only
   rw[if_neg (by omega),map_ki part f c ks2 k2 v2 N _ _ h (by
    rw[lyM]at hN;simp only[List.length_append,List.length_cons]at hN |-;omega),List.append_assoc]
   rfl
theorem lyS_mem {f:Tr->List (Int × Ln)} {c:Int} {p:Int × Ln}:∀ {ks:List Tr},p∈lyS f c ks->p.1=c\/∃ k∈ks,p∈f k
 | [],h=>by cases h
 | k::ks,h=>by
  rw[lyS]at h;rcases List.mem_cons.1 h with rfl | h
  ·exact .inl rfl
  ·rcases List.mem_append.1 h with h | h
   ·exact .inr ⟨k,List.mem_cons_self,h⟩
   ·rcases lyS_mem h with h | ⟨k',hk,h⟩
    ·exact .inl h
    ·exact .inr ⟨k',List.mem_cons_of_mem _ hk,h⟩
theorem lyM_mem {f:Tr->List (Int × Ln)} {c:Int} {p:Int × Ln}:∀ {ks:List Tr},p∈lyM f c ks->p.1=c\/∃ k∈ks,p∈f k
 | [],h=>by cases h
 | [_],h=>by cases h
 | k::v::ks,h=>by
  rw[lyM]at h;rcases List.mem_cons.1 h with rfl | h
  ·exact .inl rfl
  ·rcases List.mem_append.1 h with h | h
   ·exact .inr ⟨v,by simp,h⟩
   ·rcases lyM_mem h with h | ⟨k',hk,h⟩
    ·exact .inl h
    ·exact .inr ⟨k',by simp[hk],h⟩
theorem lyC_le (t:Tr) (c:Int):c<=lyC t c:=by unfold lyC;split<;>omega
theorem lyo_col:∀ (d:Nat) (t:Tr) (c:Int),∀ p∈lyo d t c,c<=p.1
 | 0,t,c,p,h=>by
  rw[lyo,List.mem_singleton]at h;rw[h];exact Int.le_refl _
 | d+1,t,c,p,h=>by
  have hc:=lyC_le t c;rw[lyo]at h;split at h
  ·rw[List.mem_singleton]at h;rw[h];exact Int.le_refl _
  ·rcases List.mem_append.1 h with h | h
   ·split at h
    ·cases h
    ·rw[List.mem_singleton]at h;rw[h];exact Int.le_refl _
   ·have:p.1=lyC t c\/∃ k∈t.kids,p∈lyo d k (lyC t c+2):=by
     split at h
     ·exact lyM_mem h
     ·exact lyS_mem h
    rcases this with e | ⟨k,_,hk⟩
    ·rw[e];exact hc
    ·have:=lyo_col d k _ p hk;omega
theorem kyL_all {mp:Bool} {f:Tr->Bool}:∀ {ks:List Tr} {i:Nat},kyL mp f i ks=true->∀ k∈ks,f k=true
 | [],_,_,k,hk=>by cases hk
 | x::ks,i,h,k,hk=>by
  rw[kyL]at h;simp only[Bool.and_eq_true]at h;rcases List.mem_cons.1 hk with rfl | hk
  ·exact h.1.2
  ·exact kyL_all h.2 k hk
theorem prm_of {f:Tr->Bool} {C:Tr->Tr->Prop} {Q:Tr->Prop} (hC:∀ k v,Q k->Q v->isKey k=true->k.text.length<=256->C k v):∀ (ks:List Tr) (i:Nat),i % 2=0->ks.length % 2=0->keysOk i ks=true->kyL true f i ks=true->(∀ k∈ks,Q k)->PrM C ks
 | [],_,_,_,_,_,_=>trivial
 | [_],_,_,h,_,_,_=>absurd h (by simp)
 | k::v::ks,i,hi,hl,hk,hy,hq=>by
  rw[keysOk,keysOk]at hk;rw[kyL,kyL]at hy;simp only[Bool.and_eq_true]at hk hy;have e0:(i % 2==0)=true:=by simp[hi]
  rw[e0]at hk hy;refine⟨hC k v (hq k (by simp)) (hq v (by simp)) (by simpa using hk.1) ?_,prm_of hC ks (i+1+1) (by omega) (by simp only[List.length_cons]at hl;omega) hk.2.2 hy.2.2 (fun x hx=>hq x (by simp[hx]))⟩;have:=hy.1.1;simp only[Bool.true_and,Bool.not_eq_true',Bool.or_eq_false_iff,decide_eq_false_iff_not]at this;omega
theorem rgt_leaf {m:Nat} {t:Tr} (h:rgt m t=true) (hk:t.kids=[]):rgt 64 t=true:=by
 obtain⟨inner,hi⟩:=rgt_step h;show rstep (some fun k=>rgt 63 k) t=true;unfold rstep at hi |-;rw[hk]at hi |-;simp only[Bool.and_eq_true]at hi |-;refine⟨hi.1,?_⟩;split
 ·rfl
 ·simp[keysOk]
theorem hds_no {dp:Bool} {c:Int} {n:Nat} {r:Rw} {rest:List Rw} (h1:noth r.2.1=false) (h2:c<=r.1) (h3:noth (CP ⟨[],0⟩ r.2.1).2=false):hds dp (n+1) c (r::rest)=([],r::rest,0,0):=by
 have hc:cnt (r::rest)=r::rest:=by
  unfold cnt;rw[List.dropWhile_cons,if_neg (by rw[h1];decide)]
 rw[hds,hc];simp only;rw[if_neg (by omega),if_pos (by rw[h3];rfl)]
theorem be_no {val:Rw->List Rw->Tf} {dp:Bool} {h:Hd} {r:Rw} {rest:List Rw} {t:Tr} (h1:noth r.2.1=false) (h2:h.1.1<=r.1) (h3:noth (CP ⟨[],0⟩ r.2.1).2=false) (hh:h.2=⟨[],0⟩) (hv:val r rest=(t,0,0)):beM val dp h (r::rest)=(t,0,0):=by
 unfold beM;rw[hds_no h1 h2 h3];simp only;rw[if_neg (by decide),hv];show bak [h] (t,0,0)=_;rw[bak,if_neg (fun g=>g rfl),bak];unfold orM;rw[hh,if_pos (by decide)]
theorem be_anc {val:Rw->List Rw->Tf} {h:Hd} {r:Rw} {rest:List Rw} {c z:Int} {a:Ln} {t:Tr} (h1:noth r.2.1=false) (h2:c<=r.1) (h3:noth (CP ⟨[],0⟩ r.2.1).2=false) (hh:h.2=⟨[],0⟩) (hc:h.1.1<=c) (ha:isName a=true) (ht:t.kind=5\/t.kind=6) (hta:t.anc=[]) (hv:val r rest=(t,0,0)) :
  beM val false h ((c,38::a,z)::r::rest)=(⟨t.kind,t.text,a,t.kids⟩,0,0):=by
 have hcp:=CP_name ha
 have hcn:cnt (((c,38::a,z):Rw)::r::rest)=(c,38::a,z)::r::rest:=by
  unfold cnt;rw[List.dropWhile_cons,if_neg (by show ¬ noth (38::a)=true;rw[noth_no (by simp) (by rw[hd_cons];decide)];decide)]
 have hq:hds false ((((c,38::a,z):Rw)::r::rest).length+1) h.1.1 ((c,38::a,z)::r::rest)=([((c,38::a,z),⟨a,0⟩)],r::rest,0,0):=by
  show hds false (rest.length+1+1+1) _ _=_;rw[hds,hcn];simp only;rw[if_neg (by omega),hcp,if_neg (by show ¬ (!noth [] || false)=true;decide),hds_no h1 h2 h3]
 have hne:samePp ⟨a,0⟩ ⟨[],0⟩=false:=by
  unfold samePp;simp[isName_hd ha]
 unfold beM;rw[hq];simp only;rw[if_neg (by decide),hv];show bak [((c,38::a,z),⟨a,0⟩),h] (t,0,0)=_;rw[bak,if_neg (fun g=>g rfl),bak]
 have e1:orM (((c,38::a,z),⟨a,0⟩):Hd) t=(⟨t.kind,t.text,a,t.kids⟩,0,0):=by
  unfold orM;rw[hne,if_neg (by decide),if_neg,if_neg]
  ·unfold onB;simp
  ·unfold orB;rw[hta];simp
 simp only[e1];rw[if_neg (fun g=>g rfl),bak];unfold orM;rw[hh,if_pos (by decide)]
theorem item_row {n:Nat} {ar c:Int} {u:List Rw} {t:Tr} (z:Int) (h:beM (vaM n ar) (decide (ar=64)) ((c,[45],z),⟨[],0⟩) u=(t,0,0)):itP (vaM n) ar (c,[45],z) u=([t],0,0):=by
 have hi:isIt ([45]:Ln)=true:=by decide
 have hr:itR ([45]:Ln)=[]:=by decide
 have h0:isIt ([]:Ln)=false/\isEn ([]:Ln)=false:=by
  exact⟨by decide,isEn_nil⟩
 have hm:meM (vaM n) ar (c,[45],z) [] u=(t,0,0):=by
  unfold meM mnM
  have hcp:CP ⟨[],0⟩ []=(⟨[],0⟩,[]):=by
   rw[CP_end (by decide)];rfl
  rw[hcp];simp only;rw[if_pos (by decide),h]
 unfold itP;rw[if_neg (by rw[hi];decide),hr,if_neg (by rw[h0.1,h0.2];decide),hm]
theorem entry_row {n:Nat} {ar c:Int} {u:List Rw} {k t:Tr} (z:Int) (hk:isKey k=true) (hx:txt k.kind k.text=true) (hkk:k.kids=[]) (hl:k.text.length<=256) (h:beM (vaM n ar) (decide (ar=64)) ((c,wrt 64 k++[58],z),⟨[],0⟩) u=(t,0,0)) :
  Gm (wrt 64 k++[58])/\isEn (wrt 64 k++[58])=true/\enP (vaM n) ar (c,wrt 64 k++[58],z) u=([k,t],0,0):=by
 unfold isKey at hk;simp only[Bool.and_eq_true,decide_eq_true_eq,beq_iff_eq]at hk
 have hw:wrt 64 k=scl true k.kind k.text:=by
  show wstep _ k=_;unfold wstep;rw[if_neg (by omega),if_pos hk.1,hk.2];rfl
 rw[hw]at h |-;obtain⟨hg,he,ht,hr⟩:=key_row hk.1.1 hk.1.2 hx;generalize scl true k.kind k.text++[58]=l at *
 have hm:meM (vaM n) ar (c,l,z) [] u=(t,0,0):=by
  unfold meM mnM
  have hcp:CP ⟨[],0⟩ []=(⟨[],0⟩,[]):=by
   rw[CP_end (by decide)];rfl
  rw[hcp];simp only;rw[if_pos (by decide),h]
 refine⟨hg,he,?_⟩;unfold enP;rw[if_neg (by rw[he];decide),ht,if_neg (by simp only;omega),hr,hm];obtain⟨a,b,c',d'⟩:=k;simp only at hk hkk |-;rw[hk.2,hkk]
theorem fineT_kid {d:Nat} {t:Tr} (h:fineT (d+1) t):∀ k∈t.kids,fineT d k:=fun k hk=>by
 obtain⟨i,hi,rfl⟩:=List.getElem_of_mem hk;have:=h.2.2 i hi
 rwa [List.getD_eq_getElem?_getD,List.getElem?_eq_getElem hi,Option.getD_some]at this
theorem rgt_kid {m:Nat} {t:Tr} (h:rgt (m+1) t=true) (hl:t.kind=5\/t.kind=6):∀ k∈t.kids,rgt m k=true:=fun k hk=>by
 obtain⟨v,e,_,hv⟩:=(rstep_inv h).2.2.2.2.2 hl;cases e;exact hv k hk
theorem ly_be (hS:Sfx):∀ (m:Nat) (t:Tr),rgt m t=true->∀ (d:Nat),m<d->fineT d t->∀ (deep n:Nat) (c:Int) (z:Nat) (h:Hd),kyB d t deep=true->m<n->h.1.1<=c->h.2=⟨[],0⟩ ->
  beM (vaM n (deep:Int)) (decide ((deep:Int)=64)) h (nrw z (lyo d t c))=(t,0,0)
 | m,t,hr,0,hd,_,_,_,_,_,_,_,_,_,_=>absurd hd (Nat.not_lt_zero _)
 | m,t,hr,d+1,hd,hf,deep,0,c,z,h,hy,hn,hc,hh=>absurd hn (Nat.not_lt_zero _)
 | m,t,hr,d+1,hd,hf,deep,n+1,c,z,h,hy,hn,hc,hh=>by
  have hdeep:deep<20:=by
   unfold kyB at hy;simp only[Bool.and_eq_true,decide_eq_true_eq]at hy;exact hy.2
  have hdp:decide ((deep:Int)=64)=false:=by simp;omega
  by_cases hk:t.kids=[]
  ·have e:lyo (d+1) t c=[(c,wrt 64 t)]:=by
    rw[lyo,if_pos (by rw[hk];rfl)]
   have h64:=rgt_leaf hr hk;obtain⟨g1,g2,g3,a,m',g4,g5⟩:=leaf_txt (iw:=fun k=>wrt 63 k) (inner:=some fun k=>rgt 63 k) h64 hk;have hl:=leaf_len (iw:=fun k=>wrt 63 k) (inner:=some fun k=>rgt 63 k) h64 hk hf.1 hf.2.1;have hln:=line_leaf hS h64 hl;change noth (wrt 64 t)=false at g1;change isIt (wrt 64 t)=false at g2;change isEn (wrt 64 t)=false at g3;change CP ⟨[],0⟩ (wrt 64 t)=_ at g4;have hn5:noth m'=false:=noth_no g5.ne g5.h35;rw[e];refine be_no g1 hc (by rw[g4];exact hn5) hh ?_;simp only;rw[vaM,if_neg (by omega),if_neg (by rw[g2];decide),if_neg (by rw[g3];decide)];unfold meM mnM;rw[g4];simp only;rw[if_neg (by rw[hn5];decide),head_no g5.ne g5.h124 g5.h62];exact hln _ _
  ·obtain⟨inner,hi⟩:=rgt_step hr;obtain⟨r1,r7,ra,rt,r0,rl⟩:=rstep_inv hi
   have hl56:t.kind=5\/t.kind=6:=by
    by_cases e:t.kind=5\/t.kind=6
    ·exact e
    ·exact absurd (r0 ⟨fun g=>e (.inl g),fun g=>e (.inr g)⟩) hk
   cases m with
   | zero =>
    obtain⟨v,e,_⟩:=(rstep_inv (inner:=none) hr).2.2.2.2.2 hl56;cases e
   | succ m =>
    have hkr:=rgt_kid hr hl56;have hkf:=fineT_kid hf
    have hky:kyL (decide (t.kind=6)) (fun k=>kyB d k (deep+1)) 0 t.kids=true:=by
     unfold kyB at hy;simp only[Bool.and_eq_true]at hy;exact hy.1
    have hkk:=kyL_all hky;obtain⟨C,hC⟩:∃ C,lyC t c=C:=⟨_,rfl⟩;have hcC:c<=C:=by rw[<-hC];exact lyC_le t c
    have IH:∀ k∈t.kids,∀ (z':Nat) (r:Rw),r.1<=C+2->beM (vaM n ((deep:Int)+1)) (decide ((deep:Int)+1=64)) (r,⟨[],0⟩) (nrw z' (lyo d k (C+2)))=(k,0,0):=fun k hk' z' r hr'=>by
     have:=ly_be hS m k (hkr k hk') d (by omega) (hkf k hk') (deep+1) n (C+2) z' (r,⟨[],0⟩) (hkk k hk') (by omega) hr' rfl
     rwa [show ((deep+1:Nat):Int)=(deep:Int)+1 by omega]at this
    have hcol:∀ k:Tr,∀ p∈lyo d k (C+2),C<p.1:=fun k p hp=>by
     have:=lyo_col d k (C+2) p hp;omega
    have htx:t.text=[]:=by
     have:=rt;unfold txt at this;rcases hl56 with e | e<;>rw[e]at this<;>simpa using this
    -- the rows of the list
    have HL:∀ z':Nat,∃ r rest,nrw z' (if t.kind=6 then lyM (fun k=>lyo d k (C+2)) C t.kids else lyS (fun k=>lyo d k (C+2)) C t.kids)=r::rest/\r.1=C/\noth r.2.1=false/\noth (CP ⟨[],0⟩ r.2.1).2=false/\vaM (n+1) (deep:Int) r rest=(⟨t.kind,[],[],t.kids⟩,0,0):=by
     intro z';rcases hl56 with e5 | e6
     ·rw[if_neg (by omega)]
      cases hks:t.kids with
      | nil=>exact absurd hks hk
      | cons k ks =>
       rw[hks]at IH;refine⟨_,_,rfl,rfl,by show noth [45]=false;decide,by show noth (CP ⟨[],0⟩ [45]).2=false;rw[CP_same (by simp) (by decide) (by decide) (by decide)];decide,?_⟩;simp only;rw[vaM,if_neg (by omega),if_pos (by show isIt [45]=true;decide)];have:=seq_ki (itP (vaM n) ((deep:Int)+1)) (fun k=>lyo d k (C+2)) C ks k ((nrw (z'+1) (lyo d k (C+2)++lyS (fun k=>lyo d k (C+2)) C ks)).length+1) z' [] (fun k' hk'=>⟨hcol k',fun z1 z2=>item_row _ (IH k' hk' z2 _ (by simp only;omega))⟩) (by rw[nrw_len];exact Nat.lt_succ_self _);rw[this,e5];rfl
     ·rw[if_pos e6];obtain⟨v,ev,hv,_⟩:=rl (.inr e6);obtain⟨hev,hko⟩:=hv e6
      have hky':kyL true (fun k=>kyB d k (deep+1)) 0 t.kids=true:=by
       have:=hky;rw[e6]at this;exact this
      have hpr:=prm_of (C:=fun k v=>(isIt (wrt 64 k++[58])=false/\isEn (wrt 64 k++[58])=true/\noth (CP ⟨[],0⟩ (wrt 64 k++[58])).2=false)/\noth (wrt 64 k++[58])=false/\(∀ p∈lyo d v (C+2),C<p.1)/\∀ z z':Nat,enP (vaM n) ((deep:Int)+1) (C,wrt 64 k++[58],(z:Int)) (nrw z' (lyo d v (C+2)))=([k,v],0,0)) (Q:=fun k=>k∈t.kids) (fun k v qk qv hik hlk=>by
       obtain⟨inn,hin⟩:=rgt_step (hkr k qk);have hri:=rstep_inv hin
       have hk12:1<=k.kind/\k.kind<=4:=by
        unfold isKey at hik;simp only[Bool.and_eq_true,decide_eq_true_eq]at hik;exact hik.1
       have hE:=fun (z1 z2:Nat)=>entry_row (n:=n) (ar:=(deep:Int)+1) (c:=C) (u:=nrw z2 (lyo d v (C+2))) (k:=k) (t:=v) (z1:Int) hik hri.2.2.2.1 (hri.2.2.2.2.1 ⟨by omega,by omega⟩) hlk (IH v qv z2 _ (by simp only;omega))
       have hg:=(hE 0 0).1;exact⟨⟨hg.it,(hE 0 0).2.1,by rw[CP_same hg.ne hg.h32 hg.h38 hg.h33];exact noth_no hg.ne hg.h35⟩,noth_no hg.ne hg.h35,hcol v,fun z1 z2=>(hE z1 z2).2.2⟩) t.kids 0 rfl hev hko hky' (fun k hk'=>hk')
      match hks:t.kids,hpr with
      | [],_=>exact absurd hks hk
      | [_],h=>exact h.elim
      | k::v'::ks,hpr =>
       obtain⟨⟨⟨i1,i2,i3⟩,i4,i5,i6⟩,hrest⟩:=hpr;refine⟨_,_,rfl,rfl,i4,i3,?_⟩;simp only;rw[vaM,if_neg (by omega),if_neg (by rw[i1];decide),if_pos i2]
       have hw:∀ l:List Tr,PrM (fun k v=>(isIt (wrt 64 k++[58])=false/\isEn (wrt 64 k++[58])=true/\noth (CP ⟨[],0⟩ (wrt 64 k++[58])).2=false)/\noth (wrt 64 k++[58])=false/\(∀ p∈lyo d v (C+2),C<p.1)/\∀ z z':Nat,enP (vaM n) ((deep:Int)+1) (C,wrt 64 k++[58],(z:Int)) (nrw z' (lyo d v (C+2)))=([k,v],0,0)) l ->
         PrM (fun k v=>noth (wrt 64 k++[58])=false/\(∀ p∈(fun k=>lyo d k (C+2)) v,C<p.1)/\∀ z z':Nat,enP (vaM n) ((deep:Int)+1) (C,wrt 64 k++[58],(z:Int)) (nrw z' ((fun k=>lyo d k (C+2)) v))=([k,v],0,0)) l:=by
        intro l
        induction l using PrM.induct with
        | case1=>exact fun h=>h
        | case2=>exact fun h=>h
        | case3 k v ks ih=>exact fun h=>⟨h.1.2,ih h.2⟩
       have:=map_ki (enP (vaM n) ((deep:Int)+1)) (fun k=>lyo d k (C+2)) C ks k v' ((nrw (z'+1) (lyo d v' (C+2)++lyM (fun k=>lyo d k (C+2)) C ks)).length+1) z' [] ⟨⟨i4,i5,i6⟩,hw ks hrest⟩ (by rw[nrw_len];exact Nat.lt_succ_self _);rw[this,e6];rfl
    have hne:t.kids.isEmpty=false:=by
     cases hq:t.kids.isEmpty with
     | false=>rfl
     | true=>exact absurd (List.isEmpty_iff.1 hq) hk
    rw[lyo,if_neg (by rw[hne];decide),hC];by_cases hA:t.anc=[]
    ·rw[if_pos hA,List.nil_append];obtain⟨r,rest,e,hrc,hrn,hrp,hva⟩:=HL z;rw[e];have:=be_no (val:=vaM (n+1) (deep:Int)) (dp:=decide ((deep:Int)=64)) (h:=h) hrn (by omega) hrp hh hva;rw[this];obtain⟨tk,tx,ta,tks⟩:=t;simp only at hA htx;rw[hA,htx]
    ·rw[if_neg hA];obtain⟨r,rest,e,hrc,hrn,hrp,hva⟩:=HL (z+1)
     have hnm:isName t.anc=true:=by
      rcases ra with ⟨g,_⟩ | g
      ·exact absurd g hA
      ·exact g
     rw[List.cons_append,List.nil_append,nrw,e,hdp,be_anc (t:=⟨t.kind,[],[],t.kids⟩) hrn (by omega) hrp hh hc hnm hl56 rfl hva];obtain⟨tk,tx,ta,tks⟩:=t;simp only at htx;rw[htx]
theorem ly_pa (hS:Sfx) {t:Tr} {d n:Nat} (hr:rgt 64 t=true) (hr9:rgh 129 t=true) (hd:64<d) (hn:64<n) (hf:fineT d t) (hy:kyB d t 0=true):paM n (nrw 1 (lyo d t 0))=(t,0,0):=by
 have:=ly_be hS 64 t hr d hd hf 0 n 0 1 top hy hn (by decide) rfl;unfold paM;rw[show beM (vaM n 0) false top (nrw 1 (lyo d t 0))=(t,0,0)from this];simp only;rw[if_neg (by decide),if_neg (by rw[hr9];decide)]
end Tre
namespace Tre
open Utf Rws Pln Flw
open Blk (Rw lo rws joinW trm fld headO)
theorem lyS_len {f:Tr->List (Int × Ln)} {g:Tr->Nat} {c:Int}:∀ {ks:List Tr},(∀ k∈ks,(f k).length+1<=2*g k)->(lyS f c ks).length<=2*(ks.map g).sum
 | [],_=>Nat.zero_le _
 | k::ks,h=>by
  have h1:=h k List.mem_cons_self;have h2:=lyS_len (c:=c) (fun x hx=>h x (List.mem_cons_of_mem _ hx));rw[lyS,List.length_cons,List.length_append,List.map_cons,List.sum_cons];omega
theorem lyM_len {f:Tr->List (Int × Ln)} {g:Tr->Nat} {c:Int}:∀ {ks:List Tr},(∀ k∈ks,(f k).length+1<=2*g k)->(lyM f c ks).length<=2*(ks.map g).sum
 | [],_=>Nat.zero_le _
 | [_],_=>Nat.zero_le _
 | k::v::ks,h=>by
  have h1:=h v (by simp);have h2:=lyM_len (c:=c) (ks:=ks) (fun x hx=>h x (by simp[hx]));rw[lyM,List.length_cons,List.length_append,List.map_cons,List.sum_cons,List.map_cons,List.sum_cons];omega
theorem lyo_len:∀ (d:Nat) (t:Tr) (c:Int),(lyo d t c).length+1<=2*cntT d t
 | 0,t,c=>by rw[lyo];exact Nat.le_refl _
 | d+1,t,c=>by
  rw[lyo,cntT];have h1:=lyS_len (f:=fun k=>lyo d k (lyC t c+2)) (g:=fun k=>cntT d k) (c:=lyC t c) (ks:=t.kids) (fun k _=>lyo_len d k _);have h2:=lyM_len (f:=fun k=>lyo d k (lyC t c+2)) (g:=fun k=>cntT d k) (c:=lyC t c) (ks:=t.kids) (fun k _=>lyo_len d k _);split
  ·simp only[List.length_cons,List.length_nil];omega
  ·rw[List.length_append];have h3:(if t.anc=[]then []else [(c,38::t.anc)]:List (Int × Ln)).length<=1:=by split<;>simp
   have h4:(if t.kind=6 then lyM (fun k=>lyo d k (lyC t c+2)) (lyC t c) t.kids else lyS (fun k=>lyo d k (lyC t c+2)) (lyC t c) t.kids).length<=2*(t.kids.map fun k=>cntT d k).sum:=by split<;>assumption
   omega
theorem cnt_mem {d:Nat} {t k:Tr} (h:k∈t.kids):cntT d k+1<=cntT (d+1) t:=by
 rw[cntT]
 have:∀ l:List Tr,k∈l->cntT d k<=(l.map fun k=>cntT d k).sum:=by
  intro l
  induction l with
  | nil=>intro h;cases h
  | cons x l ih =>
   intro h;rw[List.map_cons,List.sum_cons];rcases List.mem_cons.1 h with rfl | h
   ·omega
   ·have:=ih h;omega
 have:=this _ h;omega
theorem cnt_pos:∀ (d:Nat) (t:Tr),1<=cntT d t
 | 0,_=>Nat.le_refl _
 | d+1,t=>by rw[cntT];omega
theorem lyC_up (t:Tr) (c:Int):lyC t c<=c+1:=by unfold lyC;split<;>omega
theorem lyo_colU:∀ (d:Nat) (t:Tr) (c:Int),∀ p∈lyo d t c,p.1<=c+3*(cntT d t:Int)
 | 0,t,c,p,h=>by
  rw[lyo,List.mem_singleton]at h;rw[h];simp only;omega
 | d+1,t,c,p,h=>by
  have hc:=lyC_up t c;have hp:=cnt_pos (d+1) t;rw[lyo]at h;split at h
  ·rw[List.mem_singleton]at h;rw[h];simp only;omega
  ·rcases List.mem_append.1 h with h | h
   ·split at h
    ·cases h
    ·rw[List.mem_singleton]at h;rw[h];simp only;omega
   ·have:p.1=lyC t c\/∃ k∈t.kids,p∈lyo d k (lyC t c+2):=by
     split at h
     ·exact lyM_mem h
     ·exact lyS_mem h
    rcases this with e | ⟨k,hk',hk⟩
    ·rw[e];omega
    ·have h1:=lyo_colU d k _ p hk;have h2:=cnt_mem (d:=d) hk';omega
theorem lyS_txt {f:Tr->List (Int × Ln)} {c:Int} {B:Nat} (hB:1<=B):∀ {ks:List Tr},(∀ k∈ks,∀ p∈f k,p.2.length<=B)->∀ p∈lyS f c ks,p.2.length<=B
 | [],_,p,h=>by cases h
 | k::ks,hf,p,h=>by
  rw[lyS]at h;rcases List.mem_cons.1 h with rfl | h
  ·exact hB
  ·rcases List.mem_append.1 h with h | h
   ·exact hf k List.mem_cons_self p h
   ·exact lyS_txt hB (fun x hx=>hf x (List.mem_cons_of_mem _ hx)) p h
theorem lyM_txt {f:Tr->List (Int × Ln)} {c:Int} {B:Nat}:∀ {ks:List Tr},(∀ k∈ks,∀ p∈f k,p.2.length<=B)->PrM (fun k _=>(wrt 64 k).length+1<=B) ks->∀ p∈lyM f c ks,p.2.length<=B
 | [],_,_,p,h=>by cases h
 | [_],_,_,p,h=>by cases h
 | k::v::ks,hf,hk,p,h=>by
  rw[lyM]at h;rcases List.mem_cons.1 h with rfl | h
  ·simp only[List.length_append,List.length_cons,List.length_nil];exact hk.1
  ·rcases List.mem_append.1 h with h | h
   ·exact hf v (by simp) p h
   ·exact lyM_txt (fun x hx=>hf x (by simp[hx])) hk.2 p h
theorem keys_prm {C:Tr->Tr->Prop} {Q:Tr->Prop} (hC:∀ k v,Q k->Q v->isKey k=true->C k v):∀ (ks:List Tr) (i:Nat),i % 2=0->ks.length % 2=0->keysOk i ks=true->(∀ k∈ks,Q k)->PrM C ks
 | [],_,_,_,_,_=>trivial
 | [_],_,_,h,_,_=>absurd h (by simp)
 | k::v::ks,i,hi,hl,hk,hq=>by
  rw[keysOk,keysOk]at hk;simp only[Bool.and_eq_true]at hk;have e0:(i % 2==0)=true:=by simp[hi]
  rw[e0]at hk;exact⟨hC k v (hq k (by simp)) (hq v (by simp)) (by simpa using hk.1),keys_prm hC ks (i+1+1) (by omega) (by simp only[List.length_cons]at hl;omega) hk.2.2 (fun x hx=>hq x (by simp[hx]))⟩
theorem leaf_len2 {m:Nat} {t:Tr} (h:rgt m t=true) (hk:t.kids=[]) (hx:t.text.length<=3000) (ha:t.anc.length<=3000):(wrt 64 t).length<=40000:=by
 have h1:=scl_len true t.kind t.text;have h2:=ancW_len t.anc;show (wstep _ t).length<=_;unfold wstep;rw[hk];split
 ·rw[List.length_cons];omega
 ·split
  ·rw[List.length_append];omega
  ·rw[List.length_append];simp[jn];omega
theorem key_kids {m:Nat} {k:Tr} (h:rgt m k=true) (hk:isKey k=true):k.kids=[]:=by
 obtain⟨inner,hi⟩:=rgt_step h;unfold isKey at hk;simp only[Bool.and_eq_true,decide_eq_true_eq]at hk;exact(rstep_inv hi).2.2.2.2.1 ⟨by omega,by omega⟩
theorem fineT_lens {d:Nat} {t:Tr} (h:fineT d t):t.text.length<=3000/\t.anc.length<=3000:=by
 cases d with
 | zero=>exact h.elim
 | succ d=>exact⟨h.1,h.2.1⟩
theorem lyo_txt:∀ (d m:Nat) (t:Tr) (c:Int),rgt m t=true->fineT d t->∀ p∈lyo d t c,p.2.length<=40001
 | 0,m,t,c,hr,hf,p,h=>hf.elim
 | d+1,m,t,c,hr,hf,p,h=>by
  rw[lyo]at h;split at h
  ·rename_i he;rw[List.mem_singleton]at h;rw[h];have:=leaf_len2 hr (List.isEmpty_iff.1 he) hf.1 hf.2.1;simp only;omega
  ·rename_i he;have hk:t.kids≠[]:=fun e=>he (List.isEmpty_iff.2 e)
   obtain⟨inner,hi⟩:=rgt_step hr;obtain⟨r1,r7,ra,rt,r0,rl⟩:=rstep_inv hi
   have hl56:t.kind=5\/t.kind=6:=by
    by_cases e:t.kind=5\/t.kind=6
    ·exact e
    ·exact absurd (r0 ⟨fun g=>e (.inl g),fun g=>e (.inr g)⟩) hk
   cases m with
   | zero =>
    obtain⟨v,e,_⟩:=(rstep_inv (inner:=none) hr).2.2.2.2.2 hl56;cases e
   | succ m =>
    have hkr:=rgt_kid hr hl56;have hkf:=fineT_kid hf;have IH:∀ k∈t.kids,∀ p∈lyo d k (lyC t c+2),p.2.length<=40001:=fun k hk'=>lyo_txt d m k _ (hkr k hk') (hkf k hk')
    rcases List.mem_append.1 h with h | h
    ·split at h
     ·cases h
     ·rw[List.mem_singleton]at h;rw[h];have:=hf.2.1;simp only[List.length_cons];omega
    ·split at h
     ·rename_i e6;obtain⟨v,ev,hv,_⟩:=rl (.inr e6);obtain⟨hev,hko⟩:=hv e6;refine lyM_txt IH (keys_prm (Q:=fun k=>k∈t.kids) (fun k v qk _ hik=> ?_) t.kids 0 rfl hev hko (fun k hk'=>hk')) p h;have:=fineT_lens (hkf k qk);have:=leaf_len2 (hkr k qk) (key_kids (hkr k qk) hik) this.1 this.2;omega
     ·exact lyS_txt (by decide) IH p h
end Tre
namespace Blk
open Go.RowKit
open Rws (mk mk_data mk_size mk_of mk_ext mk_get mk_inj is32)
theorem Tryz.infoRow:(Tryz.prog.info? 45).map (fun i=>(i.zero,i.size,i.bytes))=some (some (.agg #[.int .i64 0,.string ⟨#[]⟩,.int .i64 0]),3,32):=by kernel_rfl
def rC (r:Rw):List Value:=[.int .i64 r.1,.string (mk r.2.1),.int .i64 r.2.2]
def rowV (rs:List Rw):List Value:=rs.flatMap rC
theorem rowV_app (a b:List Rw):rowV (a++b)=rowV a++rowV b:=by simp[rowV]
theorem rowV_len (rs:List Rw):(rowV rs).length=rs.length*3:=by
 induction rs with
 | nil=>rfl
 | cons r t ih =>
  have e:rowV (r::t)=rC r++rowV t:=by simp[rowV]
  rw[e,List.length_append,ih,List.length_cons];simp[rC];omega
theorem rowV_at (rs:List Rw) (i:Nat) (h:i<rs.length):(rowV rs)[i*3]?=some (.int .i64 (rs.getD i z3).1)/\(rowV rs)[i*3+1]?=some (.string (mk (rs.getD i z3).2.1))/\(rowV rs)[i*3+2]?=some (.int .i64 (rs.getD i z3).2.2):=by
 induction rs generalizing i with
 | nil=>simp at h
 | cons x r ih =>
  cases i with
  | zero=>simp[rowV,rC]
  | succ i =>
   have:=ih i (by simp at h;omega);have e:rowV (x::r)=rC x++rowV r:=by simp[rowV]
   have e1:(i+1)*3=(rC x).length+i*3:=by simp[rC];omega
   have e2:(i+1)*3+1=(rC x).length+(i*3+1):=by simp[rC];omega
   have e3:(i+1)*3+2=(rC x).length+(i*3+2):=by simp[rC];omega
   rw[e,e3,e2,e1,List.getElem?_append_right (by omega),List.getElem?_append_right (by omega),List.getElem?_append_right (by omega),Nat.add_sub_cancel_left,Nat.add_sub_cancel_left,Nat.add_sub_cancel_left,List.getD_cons_succ];exact this
theorem rw_own {w:World} {base:Nat} {v:Value} {rs:List Rw} (h:w.ownsRow base 45 3 v rs.length (rowV rs)):∃ a cap,v=.slice a rs.length cap/\rs.length<=cap/\RwAt w a rs.length rs/\(0<rs.length->∃ g,a=some ⟨g,0,none⟩):=by
 obtain⟨hl,h⟩:=h;rcases h with ⟨rfl,h0⟩ | ⟨g,cap,cur,rfl,hb,hg,hc,hm,hs,ht⟩
 ·rw[h0];exact⟨_,_,rfl,Nat.le_refl _,⟨by simp[h0],fun h=>absurd h (by decide)⟩,fun h=>absurd h (by decide)⟩
 ·refine⟨_,_,rfl,hc,⟨rfl,fun _=>⟨g,0,rfl,(Array.getElem?_eq_some_iff.1 hg).1,?_⟩⟩,fun _=>⟨g,rfl⟩⟩;intro i hi;have hv:=rowV_at rs i hi;rw[<-ht,List.getElem?_take,if_pos (by omega),List.getElem?_take,if_pos (by omega),List.getElem?_take,if_pos (by omega)]at hv;simp only[Nat.zero_add];rw[cell_of_row w g _ cur 45 (0,0) hg,cell_of_row w g _ cur 45 (0,0) hg,cell_of_row w g _ cur 45 (0,0) hg];simpa using hv
theorem cell_three {w:World} (r:Rw) (t:TypeId):∀ j u,(rC r)[j]?=some u->(w.alloc (.cells #[.int .i64 r.1,.string (mk r.2.1),.int .i64 r.2.2] t)).cell? ((⟨w.heap.size,0,none⟩:Addr).add j)=some u:=by
 intro j u hu;rw[add_plain,Nat.zero_add,Lib.cell_of_heap (heap_alloc_new w _)];rw[<-hu];simp[rC]
theorem row_one (r:Rw):∀ u∈rC r,u.oneCell'=true:=by
 intro u hu;simp only[rC,List.mem_cons,List.not_mem_nil,or_false]at hu;rcases hu with rfl | rfl | rfl<;>rfl
end Blk
end Go.Proofs.YtidhpmcmbooaoaaGreatDoor
