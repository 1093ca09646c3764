/- . -/
import Derived.Test.YtidhpmcmbooaoaaGreatDoorR18UtfEncd
import Derived.Laws.BitsAllLaws
set_option linter.unusedSimpArgs false
set_option linter.unusedVariables false
set_option maxRecDepth 100000
namespace Go.Proofs.YtidhpmcmbooaoaaGreatDoor
namespace Quo
open Utf Rws
open Go.RowKit
structure Tabs (w:World):Prop where
 sh:∃ t fz,w.heap[0]?=some (.cells #[.int .u8 34,.int .i64 34,.int .u8 92,.int .i64 92,.int .u8 110,.int .i64 10,.int .u8 116,.int .i64 9,.int .u8 114,.int .i64 13,.int .u8 48,.int .i64 0] t fz)
 nu:∃ t fz,w.heap[1]?=some (.cells #[.int .u8 120,.int .i64 2,.int .u8 117,.int .i64 4,.int .u8 85,.int .i64 8] t fz)
theorem Tabs.later {w w':World} (h:Tabs w) (hb:Below w.heap.size w w'):Tabs w':=by
 obtain⟨⟨t1,f1,h1⟩,⟨t2,f2,h2⟩⟩:=h;exact⟨⟨t1,f1,(hb.block _ (Array.getElem?_eq_some_iff.1 h1).1).trans h1⟩,⟨t2,f2,(hb.block _ (Array.getElem?_eq_some_iff.1 h2).1).trans h2⟩⟩
theorem Tabs.under {w w':World} {B:Nat} (h:Tabs w) (hb:Below B w w') (hB:2<=B):Tabs w':=by
 obtain⟨⟨t1,f1,h1⟩,⟨t2,f2,h2⟩⟩:=h;exact⟨⟨t1,f1,(hb.block _ (by omega)).trans h1⟩,⟨t2,f2,(hb.block _ (by omega)).trans h2⟩⟩
theorem Tabs.size {w:World} (h:Tabs w):2<=w.heap.size:=by
 obtain⟨_,⟨t2,f2,h2⟩⟩:=h;exact(Array.getElem?_eq_some_iff.1 h2).1
def mnt (c:UInt8):Option Int:=if c=34 then some 34 else if c=92 then some 92 else if c=110 then some 10 else if c=116 then some 9 else if c=114 then some 13 else if c=48 then some 0 else none
theorem lit_yes {c d:UInt8} (h:c=d):((d.toNat:Int)==(c.toNat:Int))=true:=by subst h;simp
theorem lit_no {c d:UInt8} (h:c≠d):((d.toNat:Int)==(c.toNat:Int))=false:=by
 simp only[beq_eq_false_iff_ne,ne_eq];intro e;exact h (UInt8.toNat_inj.1 (by omega))
set_option maxHeartbeats 1000000 in
theorem meant_any (c:UInt8) (w:World) (hT:Tabs w):Calls Tryz.prog 198 #[.int .u8 (c.toNat:Int)] w fun e w'=>e=.returned (.tuple #[.int .i64 ((mnt c).getD 0),.bool (mnt c).isSome])/\Below w.heap.size w w':=by
 obtain⟨t0,fz,hT⟩:=hT.sh;have g0:w.cell? ⟨0,0,none⟩=some (.int .u8 34):=by rw[Lib.cell_of_heap hT];rfl
 have g1:w.cell? ⟨0,1,none⟩=some (.int .i64 34):=by rw[Lib.cell_of_heap hT];rfl
 have g2:w.cell? ⟨0,2,none⟩=some (.int .u8 92):=by rw[Lib.cell_of_heap hT];rfl
 have g3:w.cell? ⟨0,3,none⟩=some (.int .i64 92):=by rw[Lib.cell_of_heap hT];rfl
 have g4:w.cell? ⟨0,4,none⟩=some (.int .u8 110):=by rw[Lib.cell_of_heap hT];rfl
 have g5:w.cell? ⟨0,5,none⟩=some (.int .i64 10):=by rw[Lib.cell_of_heap hT];rfl
 have g6:w.cell? ⟨0,6,none⟩=some (.int .u8 116):=by rw[Lib.cell_of_heap hT];rfl
 have g7:w.cell? ⟨0,7,none⟩=some (.int .i64 9):=by rw[Lib.cell_of_heap hT];rfl
 have g8:w.cell? ⟨0,8,none⟩=some (.int .u8 114):=by rw[Lib.cell_of_heap hT];rfl
 have g9:w.cell? ⟨0,9,none⟩=some (.int .i64 13):=by rw[Lib.cell_of_heap hT];rfl
 have g10:w.cell? ⟨0,10,none⟩=some (.int .u8 48):=by rw[Lib.cell_of_heap hT];rfl
 have g11:w.cell? ⟨0,11,none⟩=some (.int .i64 0):=by rw[Lib.cell_of_heap hT];rfl
 have x0:∀ w:World,(Instr.index 141 (.agg #[.int .u8 34,.int .i64 34,.int .u8 92,.int .i64 92,.int .u8 110,.int .i64 10,.int .u8 116,.int .i64 9,.int .u8 114,.int .i64 13,.int .u8 48,.int .i64 0]) (.int .i64 0)).run Tryz.prog w=.ok (.agg #[.int .u8 34,.int .i64 34]) w:=fun _=>by kernel_rfl
 have x1:∀ w:World,(Instr.index 141 (.agg #[.int .u8 34,.int .i64 34,.int .u8 92,.int .i64 92,.int .u8 110,.int .i64 10,.int .u8 116,.int .i64 9,.int .u8 114,.int .i64 13,.int .u8 48,.int .i64 0]) (.int .i64 1)).run Tryz.prog w=.ok (.agg #[.int .u8 92,.int .i64 92]) w:=fun _=>by kernel_rfl
 have x2:∀ w:World,(Instr.index 141 (.agg #[.int .u8 34,.int .i64 34,.int .u8 92,.int .i64 92,.int .u8 110,.int .i64 10,.int .u8 116,.int .i64 9,.int .u8 114,.int .i64 13,.int .u8 48,.int .i64 0]) (.int .i64 2)).run Tryz.prog w=.ok (.agg #[.int .u8 110,.int .i64 10]) w:=fun _=>by kernel_rfl
 have x3:∀ w:World,(Instr.index 141 (.agg #[.int .u8 34,.int .i64 34,.int .u8 92,.int .i64 92,.int .u8 110,.int .i64 10,.int .u8 116,.int .i64 9,.int .u8 114,.int .i64 13,.int .u8 48,.int .i64 0]) (.int .i64 3)).run Tryz.prog w=.ok (.agg #[.int .u8 116,.int .i64 9]) w:=fun _=>by kernel_rfl
 have x4:∀ w:World,(Instr.index 141 (.agg #[.int .u8 34,.int .i64 34,.int .u8 92,.int .i64 92,.int .u8 110,.int .i64 10,.int .u8 116,.int .i64 9,.int .u8 114,.int .i64 13,.int .u8 48,.int .i64 0]) (.int .i64 4)).run Tryz.prog w=.ok (.agg #[.int .u8 114,.int .i64 13]) w:=fun _=>by kernel_rfl
 have x5:∀ w:World,(Instr.index 141 (.agg #[.int .u8 34,.int .i64 34,.int .u8 92,.int .i64 92,.int .u8 110,.int .i64 10,.int .u8 116,.int .i64 9,.int .u8 114,.int .i64 13,.int .u8 48,.int .i64 0]) (.int .i64 5)).run Tryz.prog w=.ok (.agg #[.int .u8 48,.int .i64 0]) w:=fun _=>by kernel_rfl
 clear hT;go_enter Tryz.func198,Tryz.ntmps198;go_wp2;clear g0 g1 g2 g3 g4 g5 g6 g7 g8 g9 g10 g11
 go_loopw [7] (fun i wr=>∃ k:Int,0<=k/\k<=6/\i=.int .i64 k/\(0<k->c≠34)/\(1<k->c≠92)/\(2<k->c≠110)/\(3<k->c≠116)/\(4<k->c≠114)/\(5<k->c≠48)/\Below w.heap.size w wr) (fun i _=>6-(intOf i).toNat)
 case atStart=>exact⟨0,by decide,by decide,rfl,fun h=>absurd h (by decide),fun h=>absurd h (by decide),fun h=>absurd h (by decide),fun h=>absurd h (by decide),fun h=>absurd h (by decide),fun h=>absurd h (by decide),Below.refl _ _⟩
 case round =>
  obtain⟨k,hk0,hk,rfl,n0,n1,n2,n3,n4,n5,hbe⟩:=hrel;rcases(show k=0\/k=1\/k=2\/k=3\/k=4\/k=5\/k=6 by omega)with rfl | rfl | rfl | rfl | rfl | rfl | rfl
  ·by_cases hc:c=34
   ·have e:((34:Int)==(c.toNat:Int))=true:=lit_yes (d:=34) hc;have HX:Hid (mnt c=some 34):=by subst hc;exact rfl
    clear hc n0 n1 n2 n3 n4 n5;go_wp2;go_ret2;exact⟨by rw[HX.out];rfl,hbe.alloc hbe.size _⟩
   ·have e:((34:Int)==(c.toNat:Int))=false:=lit_no (d:=34) hc;have HN:Hid (((0:Int)<1->c≠34)/\((1:Int)<1->c≠92)/\((2:Int)<1->c≠110)/\((3:Int)<1->c≠116)/\((4:Int)<1->c≠114)/\((5:Int)<1->c≠48)):=⟨fun _=>hc,fun h=>absurd h (by decide),fun h=>absurd h (by decide),fun h=>absurd h (by decide),fun h=>absurd h (by decide),fun h=>absurd h (by decide)⟩;have hs:=hbe.size;clear hc n0 n1 n2 n3 n4 n5;go_wp2;go_roundw
    case rel=>exact⟨1,by decide,by decide,rfl,HN.out.1,HN.out.2.1,HN.out.2.2.1,HN.out.2.2.2.1,HN.out.2.2.2.2.1,HN.out.2.2.2.2.2,hbe.alloc hs _⟩
    case measure=>simp[intOf]
  ·by_cases hc:c=92
   ·have e:((92:Int)==(c.toNat:Int))=true:=lit_yes (d:=92) hc;have HX:Hid (mnt c=some 92):=by subst hc;exact rfl
    clear hc n0 n1 n2 n3 n4 n5;go_wp2;go_ret2;exact⟨by rw[HX.out];rfl,hbe.alloc hbe.size _⟩
   ·have e:((92:Int)==(c.toNat:Int))=false:=lit_no (d:=92) hc;have HN:Hid (((0:Int)<2->c≠34)/\((1:Int)<2->c≠92)/\((2:Int)<2->c≠110)/\((3:Int)<2->c≠116)/\((4:Int)<2->c≠114)/\((5:Int)<2->c≠48)):=⟨fun _=>n0 (by decide),fun _=>hc,fun h=>absurd h (by decide),fun h=>absurd h (by decide),fun h=>absurd h (by decide),fun h=>absurd h (by decide)⟩;have hs:=hbe.size;clear hc n0 n1 n2 n3 n4 n5;go_wp2;go_roundw
    case rel=>exact⟨2,by decide,by decide,rfl,HN.out.1,HN.out.2.1,HN.out.2.2.1,HN.out.2.2.2.1,HN.out.2.2.2.2.1,HN.out.2.2.2.2.2,hbe.alloc hs _⟩
    case measure=>simp[intOf]
  ·by_cases hc:c=110
   ·have e:((110:Int)==(c.toNat:Int))=true:=lit_yes (d:=110) hc;have HX:Hid (mnt c=some 10):=by subst hc;exact rfl
    clear hc n0 n1 n2 n3 n4 n5;go_wp2;go_ret2;exact⟨by rw[HX.out];rfl,hbe.alloc hbe.size _⟩
   ·have e:((110:Int)==(c.toNat:Int))=false:=lit_no (d:=110) hc;have HN:Hid (((0:Int)<3->c≠34)/\((1:Int)<3->c≠92)/\((2:Int)<3->c≠110)/\((3:Int)<3->c≠116)/\((4:Int)<3->c≠114)/\((5:Int)<3->c≠48)):=⟨fun _=>n0 (by decide),fun _=>n1 (by decide),fun _=>hc,fun h=>absurd h (by decide),fun h=>absurd h (by decide),fun h=>absurd h (by decide)⟩;have hs:=hbe.size;clear hc n0 n1 n2 n3 n4 n5;go_wp2;go_roundw
    case rel=>exact⟨3,by decide,by decide,rfl,HN.out.1,HN.out.2.1,HN.out.2.2.1,HN.out.2.2.2.1,HN.out.2.2.2.2.1,HN.out.2.2.2.2.2,hbe.alloc hs _⟩
    case measure=>simp[intOf]
  ·by_cases hc:c=116
   ·have e:((116:Int)==(c.toNat:Int))=true:=lit_yes (d:=116) hc;have HX:Hid (mnt c=some 9):=by subst hc;exact rfl
    clear hc n0 n1 n2 n3 n4 n5;go_wp2;go_ret2;exact⟨by rw[HX.out];rfl,hbe.alloc hbe.size _⟩
   ·have e:((116:Int)==(c.toNat:Int))=false:=lit_no (d:=116) hc;have HN:Hid (((0:Int)<4->c≠34)/\((1:Int)<4->c≠92)/\((2:Int)<4->c≠110)/\((3:Int)<4->c≠116)/\((4:Int)<4->c≠114)/\((5:Int)<4->c≠48)):=⟨fun _=>n0 (by decide),fun _=>n1 (by decide),fun _=>n2 (by decide),fun _=>hc,fun h=>absurd h (by decide),fun h=>absurd h (by decide)⟩;have hs:=hbe.size;clear hc n0 n1 n2 n3 n4 n5;go_wp2;go_roundw
    case rel=>exact⟨4,by decide,by decide,rfl,HN.out.1,HN.out.2.1,HN.out.2.2.1,HN.out.2.2.2.1,HN.out.2.2.2.2.1,HN.out.2.2.2.2.2,hbe.alloc hs _⟩
    case measure=>simp[intOf]
  ·by_cases hc:c=114
   ·have e:((114:Int)==(c.toNat:Int))=true:=lit_yes (d:=114) hc;have HX:Hid (mnt c=some 13):=by subst hc;exact rfl
    clear hc n0 n1 n2 n3 n4 n5;go_wp2;go_ret2;exact⟨by rw[HX.out];rfl,hbe.alloc hbe.size _⟩
   ·have e:((114:Int)==(c.toNat:Int))=false:=lit_no (d:=114) hc;have HN:Hid (((0:Int)<5->c≠34)/\((1:Int)<5->c≠92)/\((2:Int)<5->c≠110)/\((3:Int)<5->c≠116)/\((4:Int)<5->c≠114)/\((5:Int)<5->c≠48)):=⟨fun _=>n0 (by decide),fun _=>n1 (by decide),fun _=>n2 (by decide),fun _=>n3 (by decide),fun _=>hc,fun h=>absurd h (by decide)⟩;have hs:=hbe.size;clear hc n0 n1 n2 n3 n4 n5;go_wp2;go_roundw
    case rel=>exact⟨5,by decide,by decide,rfl,HN.out.1,HN.out.2.1,HN.out.2.2.1,HN.out.2.2.2.1,HN.out.2.2.2.2.1,HN.out.2.2.2.2.2,hbe.alloc hs _⟩
    case measure=>simp[intOf]
  ·by_cases hc:c=48
   ·have e:((48:Int)==(c.toNat:Int))=true:=lit_yes (d:=48) hc;have HX:Hid (mnt c=some 0):=by subst hc;exact rfl
    clear hc n0 n1 n2 n3 n4 n5;go_wp2;go_ret2;exact⟨by rw[HX.out];rfl,hbe.alloc hbe.size _⟩
   ·have e:((48:Int)==(c.toNat:Int))=false:=lit_no (d:=48) hc;have HN:Hid (((0:Int)<6->c≠34)/\((1:Int)<6->c≠92)/\((2:Int)<6->c≠110)/\((3:Int)<6->c≠116)/\((4:Int)<6->c≠114)/\((5:Int)<6->c≠48)):=⟨fun _=>n0 (by decide),fun _=>n1 (by decide),fun _=>n2 (by decide),fun _=>n3 (by decide),fun _=>n4 (by decide),fun _=>hc⟩;have hs:=hbe.size;clear hc n0 n1 n2 n3 n4 n5;go_wp2;go_roundw
    case rel=>exact⟨6,by decide,by decide,rfl,HN.out.1,HN.out.2.1,HN.out.2.2.1,HN.out.2.2.2.1,HN.out.2.2.2.2.1,HN.out.2.2.2.2.2,hbe.alloc hs _⟩
    case measure=>simp[intOf]
  ·have HX:Hid (mnt c=none):=by
    unfold mnt Hid;rw[if_neg (n0 (by decide)),if_neg (n1 (by decide)),if_neg (n2 (by decide)),if_neg (n3 (by decide)),if_neg (n4 (by decide)),if_neg (n5 (by decide))]
   clear n0 n1 n2 n3 n4 n5;go_wp2;go_ret2;exact⟨by rw[HX.out];rfl,hbe⟩
def dgs (c:UInt8):Nat:=if c=120 then 2 else if c=117 then 4 else if c=85 then 8 else 0
set_option maxHeartbeats 1000000 in
theorem digitsOf_any (c:UInt8) (w:World) (hT:Tabs w):Calls Tryz.prog 199 #[.int .u8 (c.toNat:Int)] w fun e w'=>e=.returned (.int .i64 (dgs c:Int))/\Below w.heap.size w w':=by
 obtain⟨t0,fz,hT⟩:=hT.nu;have g0:w.cell? ⟨1,0,none⟩=some (.int .u8 120):=by rw[Lib.cell_of_heap hT];rfl
 have g1:w.cell? ⟨1,1,none⟩=some (.int .i64 2):=by rw[Lib.cell_of_heap hT];rfl
 have g2:w.cell? ⟨1,2,none⟩=some (.int .u8 117):=by rw[Lib.cell_of_heap hT];rfl
 have g3:w.cell? ⟨1,3,none⟩=some (.int .i64 4):=by rw[Lib.cell_of_heap hT];rfl
 have g4:w.cell? ⟨1,4,none⟩=some (.int .u8 85):=by rw[Lib.cell_of_heap hT];rfl
 have g5:w.cell? ⟨1,5,none⟩=some (.int .i64 8):=by rw[Lib.cell_of_heap hT];rfl
 have x0:∀ w:World,(Instr.index 171 (.agg #[.int .u8 120,.int .i64 2,.int .u8 117,.int .i64 4,.int .u8 85,.int .i64 8]) (.int .i64 0)).run Tryz.prog w=.ok (.agg #[.int .u8 120,.int .i64 2]) w:=fun _=>by kernel_rfl
 have x1:∀ w:World,(Instr.index 171 (.agg #[.int .u8 120,.int .i64 2,.int .u8 117,.int .i64 4,.int .u8 85,.int .i64 8]) (.int .i64 1)).run Tryz.prog w=.ok (.agg #[.int .u8 117,.int .i64 4]) w:=fun _=>by kernel_rfl
 have x2:∀ w:World,(Instr.index 171 (.agg #[.int .u8 120,.int .i64 2,.int .u8 117,.int .i64 4,.int .u8 85,.int .i64 8]) (.int .i64 2)).run Tryz.prog w=.ok (.agg #[.int .u8 85,.int .i64 8]) w:=fun _=>by kernel_rfl
 clear hT;go_enter Tryz.func199,Tryz.ntmps199;go_wp2;clear g0 g1 g2 g3 g4 g5
 go_loopw [6] (fun i wr=>∃ k:Int,0<=k/\k<=3/\i=.int .i64 k/\(0<k->c≠120)/\(1<k->c≠117)/\(2<k->c≠85)/\Below w.heap.size w wr) (fun i _=>3-(intOf i).toNat)
 case atStart=>exact⟨0,by decide,by decide,rfl,fun h=>absurd h (by decide),fun h=>absurd h (by decide),fun h=>absurd h (by decide),Below.refl _ _⟩
 case round =>
  obtain⟨k,hk0,hk,rfl,n0,n1,n2,hbe⟩:=hrel;rcases(show k=0\/k=1\/k=2\/k=3 by omega)with rfl | rfl | rfl | rfl
  ·by_cases hc:c=120
   ·have e:((120:Int)==(c.toNat:Int))=true:=lit_yes (d:=120) hc;have HX:Hid (dgs c=2):=by subst hc;exact rfl
    clear hc n0 n1 n2;go_wp2;go_ret;exact⟨by rw[HX.out];rfl,hbe.alloc hbe.size _⟩
   ·have e:((120:Int)==(c.toNat:Int))=false:=lit_no (d:=120) hc;have HN:Hid (((0:Int)<1->c≠120)/\((1:Int)<1->c≠117)/\((2:Int)<1->c≠85)):=⟨fun _=>hc,fun h=>absurd h (by decide),fun h=>absurd h (by decide)⟩;have hs:=hbe.size;clear hc n0 n1 n2;go_wp2;go_roundw
    case rel=>exact⟨1,by decide,by decide,rfl,HN.out.1,HN.out.2.1,HN.out.2.2,hbe.alloc hs _⟩
    case measure=>simp[intOf]
  ·by_cases hc:c=117
   ·have e:((117:Int)==(c.toNat:Int))=true:=lit_yes (d:=117) hc;have HX:Hid (dgs c=4):=by subst hc;exact rfl
    clear hc n0 n1 n2;go_wp2;go_ret;exact⟨by rw[HX.out];rfl,hbe.alloc hbe.size _⟩
   ·have e:((117:Int)==(c.toNat:Int))=false:=lit_no (d:=117) hc;have HN:Hid (((0:Int)<2->c≠120)/\((1:Int)<2->c≠117)/\((2:Int)<2->c≠85)):=⟨fun _=>n0 (by decide),fun _=>hc,fun h=>absurd h (by decide)⟩;have hs:=hbe.size;clear hc n0 n1 n2;go_wp2;go_roundw
    case rel=>exact⟨2,by decide,by decide,rfl,HN.out.1,HN.out.2.1,HN.out.2.2,hbe.alloc hs _⟩
    case measure=>simp[intOf]
  ·by_cases hc:c=85
   ·have e:((85:Int)==(c.toNat:Int))=true:=lit_yes (d:=85) hc;have HX:Hid (dgs c=8):=by subst hc;exact rfl
    clear hc n0 n1 n2;go_wp2;go_ret;exact⟨by rw[HX.out];rfl,hbe.alloc hbe.size _⟩
   ·have e:((85:Int)==(c.toNat:Int))=false:=lit_no (d:=85) hc;have HN:Hid (((0:Int)<3->c≠120)/\((1:Int)<3->c≠117)/\((2:Int)<3->c≠85)):=⟨fun _=>n0 (by decide),fun _=>n1 (by decide),fun _=>hc⟩;have hs:=hbe.size;clear hc n0 n1 n2;go_wp2;go_roundw
    case rel=>exact⟨3,by decide,by decide,rfl,HN.out.1,HN.out.2.1,HN.out.2.2,hbe.alloc hs _⟩
    case measure=>simp[intOf]
  ·have HX:Hid (dgs c=0):=by
    unfold dgs Hid;rw[if_neg (n0 (by decide)),if_neg (n1 (by decide)),if_neg (n2 (by decide))]
   clear n0 n1 n2;go_wp2;go_ret;exact⟨by rw[HX.out];rfl,hbe⟩
end Quo
end Go.Proofs.YtidhpmcmbooaoaaGreatDoor
