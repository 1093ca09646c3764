/- . -/
import Derived.Test.YtalijhclfppohaaGreatDoorR03FlowMem
import Derived.Deep.RegionWith
set_option linter.unusedSimpArgs false
set_option linter.unusedVariables false
set_option maxRecDepth 100000
namespace Go.Proofs.YtalijhclfppohaaGreatDoor
namespace Flw
open Utf Rws Pln
open Go.RowKit
set_option maxHeartbeats 4000000
theorem tr_ext {a b:Tr} (h1:a.kind=b.kind) (h2:a.text=b.text) (h3:a.anc=b.anc) (h4:a.kids=b.kids):a=b:=by
 cases a;cases b;simp only at h1 h2 h3 h4;subst h1 h2 h3 h4;rfl
theorem take_same {xs ys:List Tr} {n:Nat} (h1:n<xs.length) (h2:n<ys.length) (ht:xs.take n=ys.take n) (he:xs.getD n tr0=ys.getD n tr0):xs.take (n+1)=ys.take (n+1):=by
 rw[List.getD_eq_getElem?_getD,List.getD_eq_getElem?_getD,List.getElem?_eq_getElem h1,List.getElem?_eq_getElem h2]at he;rw[List.take_succ_eq_append_getElem h1,List.take_succ_eq_append_getElem h2,ht];congr 2
theorem rsame_core (k k':Int) (s s' a a':ByteArray) (ad ad':Option Addr) (len len' cap cap':Nat) (w:World) (hl:len<=9223372036854775807) (hl':len'<=9223372036854775807) (d d':Nat) (ks ks':List Tr)
  (HK:Hid (KAt w d ad len ks)) (HK':Hid (KAt w d' ad' len' ks'))
  (HI:Hid (∀ v v' t t' w,TrV w d v t->TrV w d' v' t'->Calls Tryz.prog 16 #[v,v'] w fun e w'=>∃ q:Bool,e=.returned (.bool q)/\(q=true ↔ t=t')/\Below w.heap.size w w')) :
  Calls Tryz.prog 16 #[.agg #[.int .i64 k,.string s,.string a,.slice ad len cap],.agg #[.int .i64 k',.string s',.string a',.slice ad' len' cap']] w
   fun e w'=>∃ q:Bool,e=.returned (.bool q)/\(q=true ↔ k=k'/\s=s'/\a=a'/\ks=ks')/\Below w.heap.size w w':=by
 have HS:∀ x y:ByteArray,(x.toList==y.toList)=true ↔ x=y:=fun x y=>by
  rw[beq_iff_eq,ByteArray.toList_eq,ByteArray.toList_eq];exact⟨fun h=>by rw[<-mk_of x,<-mk_of y,h],fun h=>by rw[h]⟩
 have HB:∀ o o':Obj,Below w.heap.size w ((w.alloc o).alloc o'):=fun o o'=>((Below.refl _ w).alloc (Nat.le_refl _) o).alloc (by rw[World.size_alloc];omega) o'
 by_cases h1:k=k'
 ·subst h1;cases h2:(s.toList==s'.toList)
  ·have HP:Hid (¬ s=s'):=fun h=>by rw[(HS s s').2 h]at h2;cases h2
   clear HS;go_enter Tryz.func16,Tryz.ntmps16;go_wp2;go_ret;exact⟨false,rfl,⟨fun h=>(by cases h),fun h=>absurd h.2.1 HP.out⟩,HB _ _⟩
  ·cases h3:(a.toList==a'.toList)
   ·have HP:Hid (¬ a=a'):=fun h=>by rw[(HS a a').2 h]at h3;cases h3
    clear HS;go_enter Tryz.func16,Tryz.ntmps16;go_wp2;go_ret;exact⟨false,rfl,⟨fun h=>(by cases h),fun h=>absurd h.2.2.1 HP.out⟩,HB _ _⟩
   ·have E2:Hid (s=s'):=(HS s s').1 h2;have E3:Hid (a=a'):=(HS a a').1 h3;clear HS;by_cases h4:len=len'
    ·subst h4;go_enter Tryz.func16,Tryz.ntmps16;go_wp2
     have hc1:((w.alloc (Obj.cells #[.int .i64 k,.string s,.string a,.slice ad len cap] 35)).alloc (Obj.cells #[.int .i64 k,.string s',.string a',.slice ad' len cap'] 35)).cell? ⟨w.heap.size,3,none⟩=some (.slice ad len cap):=by
      rw[World.cell?_alloc_lt _ _ _ (by show w.heap.size<_;rw[World.size_alloc];omega),World.cell?_alloc_new];rfl
     have hc2:((w.alloc (Obj.cells #[.int .i64 k,.string s,.string a,.slice ad len cap] 35)).alloc (Obj.cells #[.int .i64 k,.string s',.string a',.slice ad' len cap'] 35)).cell? ⟨w.heap.size+1,3,none⟩=some (.slice ad' len cap'):=by
      have:=World.cell?_alloc_new (w.alloc (Obj.cells #[.int .i64 k,.string s,.string a,.slice ad len cap] 35)) #[.int .i64 k,.string s',.string a',.slice ad' len cap'] 35 3;rw[World.size_alloc]at this;rw[this];rfl
     have hB2:=HB (Obj.cells #[.int .i64 k,.string s,.string a,.slice ad len cap] 35) (Obj.cells #[.int .i64 k,.string s',.string a',.slice ad' len cap'] 35);have hsz:((w.alloc (Obj.cells #[.int .i64 k,.string s,.string a,.slice ad len cap] 35)).alloc (Obj.cells #[.int .i64 k,.string s',.string a',.slice ad' len cap'] 35)).heap.size=w.heap.size+2:=by rw[World.size_alloc,World.size_alloc]
     clear HB;generalize (w.alloc (Obj.cells #[.int .i64 k,.string s,.string a,.slice ad len cap] 35)).alloc (Obj.cells #[.int .i64 k,.string s',.string a',.slice ad' len cap'] 35)=W at hc1 hc2 hB2 hsz |-
     go_loopw [5] (fun i wr=>∃ n:Nat,n<=len/\i=.int .i64 n/\ks.take n=ks'.take n/\Below W.heap.size W wr) (fun i _=>len-(intOf i).toNat)
     case atStart=>exact⟨0,Nat.zero_le _,rfl,rfl,Below.refl _ _⟩
     case round =>
      obtain⟨n,hn,rfl,ht,hbe⟩:=hrel;have HT:Hid (ks.take n=ks'.take n):=ht;clear ht;have hz1:=(hbe.cell (p:=⟨w.heap.size,3,none⟩) (by show w.heap.size<_;omega)).trans hc1;have hz2:=(hbe.cell (p:=⟨w.heap.size+1,3,none⟩) (by show w.heap.size+1<_;omega)).trans hc2;have HBW:Hid (Below w.heap.size w wr):=hB2.trans (hbe.mono (by omega));by_cases hlt:n<len
      ·obtain⟨b,off,rfl,hb,hcell⟩:=HK.out.2 (by omega);obtain⟨c0,c1,c2,c3,x0,x1,x2,x3,hx⟩:=hcell n hlt;obtain⟨b',off',rfl,hb',hcell'⟩:=HK'.out.2 (by omega);obtain⟨y0,y1,y2,y3,z0,z1,z2,z3,hy⟩:=hcell' n hlt;replace x0:=(HBW.out.cell (p:=⟨b,off+n*4,none⟩) hb).trans x0;replace x1:=(HBW.out.cell (p:=⟨b,off+n*4+1,none⟩) hb).trans x1;replace x2:=(HBW.out.cell (p:=⟨b,off+n*4+2,none⟩) hb).trans x2;replace x3:=(HBW.out.cell (p:=⟨b,off+n*4+3,none⟩) hb).trans x3;replace z0:=(HBW.out.cell (p:=⟨b',off'+n*4,none⟩) hb').trans z0;replace z1:=(HBW.out.cell (p:=⟨b',off'+n*4+1,none⟩) hb').trans z1;replace z2:=(HBW.out.cell (p:=⟨b',off'+n*4+2,none⟩) hb').trans z2;replace z3:=(HBW.out.cell (p:=⟨b',off'+n*4+3,none⟩) hb').trans z3
       have HC:Hid (∀ m,Calls Tryz.prog 16 #[.agg #[c0,c1,c2,c3],.agg #[y0,y1,y2,y3]] (wr.drewN m) fun e w'=>∃ q:Bool,e=.returned (.bool q)/\Hid (q=true ↔ ks.getD n tr0=ks'.getD n tr0)/\Hid (Below w.heap.size w w')/\Below W.heap.size W w'):=by
        intro m;have b1:=below_drewN HBW.out m;have b2:=below_drewN hbe m;refine(HI.out _ _ _ _ _ (hx.later b1 (Nat.le_refl _)) (hy.later b1 (Nat.le_refl _))).mono ?_;rintro e w' ⟨q,rfl,hq,hb⟩;exact⟨q,rfl,hq,b1.trans (hb.mono b1.size),b2.trans (hb.mono b2.size)⟩
       clear hcell hcell' hx hy;go_wp2_with fail;go_region_with (go_at_call 16;refine(HC.out _).mono ?_;rintro e w2 ⟨q,rfl,hq,hbw2,hb2⟩)
       all_goals
        cases q
        ·go_wp2;go_ret;exact⟨false,rfl,⟨fun h=>(by cases h),fun h=>absurd (hq.out.2 (by rw[h.2.2.2])) (by decide)⟩,hbw2.out⟩
        ·go_wp2;go_roundw
         case rel=>exact⟨n+1,by omega,by go_num,take_same (by have:=HK.out.1;omega) (by have:=HK'.out.1;omega) HT.out (hq.out.1 rfl),hb2⟩
         case measure=>simp[intOf];omega
      ·have HE:Hid (ks=ks'):=by
        have h:=HT.out;have l1:=HK.out.1;have l2:=HK'.out.1;rw[List.take_of_length_le (by omega),List.take_of_length_le (by omega)]at h;exact h
       go_wp2;go_ret;exact⟨true,rfl,⟨fun _=>⟨by first | rfl | trivial,E2.out,E3.out,HE.out⟩,fun _=>rfl⟩,HBW.out⟩
    ·have HP:Hid (¬ ks=ks'):=fun h=>h4 (by rw[HK.out.1,HK'.out.1,h])
     have hne':((len:Int)!=(len':Int))=true:=by simp;omega
     go_enter Tryz.func16,Tryz.ntmps16;go_wp2
     all_goals first | contradiction | skip
     go_ret;exact⟨false,rfl,⟨fun h=>(by cases h),fun h=>absurd h.2.2.2 HP.out⟩,HB _ _⟩
 ·have h1':(k==k')=false:=by simpa using h1
  go_enter Tryz.func16,Tryz.ntmps16;go_wp2
  all_goals first | contradiction | skip
  go_ret;refine⟨false,rfl,?_,HB _ _⟩;simp[h1]
theorem mk_eq {a b:Ln}:mk a=mk b ↔ a=b:=⟨fun h=>mk_inj h,fun h=>by rw[h]⟩
theorem rsame_any:∀ (d:Nat) (d':Nat) (v v':Value) (t t':Tr) (w:World),TrV w d v t->TrV w d' v' t' ->
  Calls Tryz.prog 16 #[v,v'] w fun e w'=>∃ q:Bool,e=.returned (.bool q)/\(q=true ↔ t=t')/\Below w.heap.size w w'
 | 0,d',v,v',t,t',w,h,h'=>h.elim
 | d+1,0,v,v',t,t',w,h,h'=>h'.elim
 | d+1,d'+1,v,v',t,t',w,h,h'=>by
  obtain⟨ad,len,cap,rfl,hl,hc,hm,hz,hk⟩:=h;obtain⟨ad',len',cap',rfl,hl',hc',hm',hz',hk'⟩:=h';have m1:maxLen=9223372036854775807:=rfl;refine(rsame_core t.kind t'.kind (mk t.text) (mk t'.text) (mk t.anc) (mk t'.anc) ad ad' len len' cap cap' w (by omega) (by omega) d d' t.kids t'.kids ⟨hl,hk⟩ ⟨hl',hk'⟩ (fun v v' t t' w=>rsame_any d d' v v' t t' w)).mono ?_;rintro e w' ⟨q,rfl,hq,hb⟩;refine⟨q,rfl,hq.trans ?_,hb⟩;rw[mk_eq,mk_eq];exact⟨fun h=>tr_ext h.1 h.2.1 h.2.2.1 h.2.2.2,fun h=>by rw[h];exact⟨rfl,rfl,rfl,rfl⟩⟩
end Flw
end Go.Proofs.YtalijhclfppohaaGreatDoor
