/- . -/
import Derived.Test.YtidhpmcmbooaoaaGreatDoorR21QuoteRd
import Derived.Test.YtidhpmcmbooaoaaGreatDoorR00UtfPlain
import Derived.Deep.RegionWith
import Derived.Deep.Cut
set_option linter.unusedSimpArgs false
set_option linter.unusedVariables false
set_option maxRecDepth 100000
namespace Go.Proofs.YtidhpmcmbooaoaaGreatDoor
namespace Quo
open Utf Rws
open Go.RowKit
def Wt (B b:Nat) (out:List UInt8) (w:World):Prop:=Bld 116 B b [] (Lib.byteCells out) w
variable {B b:Nat} {out:List UInt8} {w w1 w2:World}
theorem Wt.lt (h:Wt B b out w):b<w.heap.size:=Bld.lt h
theorem Wt.later (h:Wt B b out w) (hb:Below w.heap.size w w1):Wt B b out w1:=Bld.later h hb
theorem Wt.base (h:Wt B b out w):B<=b:=by rcases h with ⟨h,_⟩ | ⟨h,_⟩<;>exact h
theorem wByte (c:UInt8) (w:World) (h:Wt B b out w) (hlen:out.length+1<=140737488355328) (hBw:B<=w.heap.size) :
  Calls Tryz.prog 67 #[.pointer (some ⟨b,0,none⟩),.int .u8 (c.toNat:Int)] w fun e w'=>e=.returned .nilIface/\Wt B b (out++[c]) w'/\Fr B b w w':=by
 refine(writeByte_any embW (c.toNat:Int) h (by rw[cells_len];exact hlen) hBw).mono ?_;rintro e w' ⟨h1,h2,h3,h4⟩;refine⟨h1,?_,h3,h4⟩;have e:Lib.byteCells out++[.int .u8 (c.toNat:Int)]=Lib.byteCells (out++[c]):=by simp[Lib.byteCells]
 rw[e]at h2;exact h2
theorem and15 (x:Int) (h0:0<=x) (h1:x<=9223372036854775807):bits .and .i64 x 15=x % 16:=by
 obtain⟨n,rfl⟩:=Int.eq_ofNat_of_zero_le h0;have e:(15:Int)=((15:Nat):Int):=rfl;rw[e];show IntKind.i64.wrap ((BitVec.ofInt 64 ((n:Nat):Int) &&& BitVec.ofInt 64 ((15:Nat):Int)).toNat:Int)=_;rw[BitVec.toNat_and,ofInt_u64 _ (by omega),ofInt_u64 _ (by omega),show (15:Nat)=2 ^ 4-1 from rfl,Nat.and_two_pow_sub_one_eq_mod,Utf.wrap_small _ (by omega)];omega
theorem digs:∀ (d:Fin 16) (h:d.1<(⟨#[48,49,50,51,52,53,54,55,56,57,97,98,99,100,101,102]⟩:ByteArray).size),(⟨#[48,49,50,51,52,53,54,55,56,57,97,98,99,100,101,102]⟩:ByteArray)[d.1]'h=hxd d.1:=by decide
set_option maxHeartbeats 8000000 in
theorem putNumber_any (n:Nat) (w:World) (h:Wt B b out w) (hn:n<=1114111) (ho:out.length+20<=140737488355328) (hBw:B<=w.heap.size) (hT:Tabs w) :
  Calls Tryz.prog 92 #[.pointer (some ⟨b,0,none⟩),.int .i64 (n:Int)] w fun e w'=>e=.returned (.tuple #[])/\Wt B b (out++if n<256 then 92::120::hexL 2 n else if n<65536 then 92::117::hexL 4 n else 92::85::hexL 8 n) w'/\Fr B b w w':=by
 have hlt:=h.lt;have hB:=h.base;obtain⟨t0,fz,hT⟩:=hT.nu;have g0:w.cell? ⟨1,0,none⟩=some (.int .u8 120):=by rw[Lib.cell_of_heap hT];rfl
 have g1:w.cell? ⟨1,1,none⟩=some (.int .i64 2):=by rw[Lib.cell_of_heap hT];rfl
 have g2:w.cell? ⟨1,2,none⟩=some (.int .u8 117):=by rw[Lib.cell_of_heap hT];rfl
 have g3:w.cell? ⟨1,3,none⟩=some (.int .i64 4):=by rw[Lib.cell_of_heap hT];rfl
 have g4:w.cell? ⟨1,4,none⟩=some (.int .u8 85):=by rw[Lib.cell_of_heap hT];rfl
 have g5:w.cell? ⟨1,5,none⟩=some (.int .i64 8):=by rw[Lib.cell_of_heap hT];rfl
 have x0:∀ w:World,(Instr.index 171 (.agg #[.int .u8 120,.int .i64 2,.int .u8 117,.int .i64 4,.int .u8 85,.int .i64 8]) (.int .i64 0)).run Tryz.prog w=.ok (.agg #[.int .u8 120,.int .i64 2]) w:=fun _=>by kernel_rfl
 have x1:∀ w:World,(Instr.index 171 (.agg #[.int .u8 120,.int .i64 2,.int .u8 117,.int .i64 4,.int .u8 85,.int .i64 8]) (.int .i64 1)).run Tryz.prog w=.ok (.agg #[.int .u8 117,.int .i64 4]) w:=fun _=>by kernel_rfl
 have x2:∀ w:World,(Instr.index 171 (.agg #[.int .u8 120,.int .i64 2,.int .u8 117,.int .i64 4,.int .u8 85,.int .i64 8]) (.int .i64 2)).run Tryz.prog w=.ok (.agg #[.int .u8 85,.int .i64 8]) w:=fun _=>by kernel_rfl
 obtain⟨V,HV⟩:∃ V,Hid (V=if n<256 then 92::120::hexL 2 n else if n<65536 then 92::117::hexL 4 n else 92::85::hexL 8 n):=⟨_,rfl⟩;rw[<-HV.out];have HW:Hid (Wt B b out w):=h;clear hT h;go_enter Tryz.func92,Tryz.ntmps92;go_wp2;clear g0 g1 g2 g3 g4 g5
 go_loopw [8] (fun i wr=>∃ k:Int,0<=k/\k<=2/\i=.int .i64 k/\(0<k->256<=n)/\(1<k->65536<=n)/\Wt B b out wr/\Fr B b w wr/\w.heap.size<=wr.heap.size) (fun i _=>3-(intOf i).toNat)
 case atStart=>exact⟨0,by decide,by decide,rfl,fun h=>absurd h (by decide),fun h=>absurd h (by decide),HW.out,Fr.refl,Nat.le_refl _⟩
 case round =>
  obtain⟨k,hk0,hk,rfl,n1,n2,hW1,hF1,hs1⟩:=hrel;have HW1:Hid (Wt B b out wr):=hW1;have HF1:Hid (Fr B b w wr):=hF1;clear hW1 hF1 HW;obtain⟨c,kd,HC⟩:∃ (c:UInt8) (kd:Nat),Hid ((c,kd)=if k=0 then (120,2)else if k=1 then (117,4)else (85,8)):=⟨_,_,rfl⟩;have HAL:Hid (∀ c t,Below wr.heap.size wr (wr.alloc (.cells c t))/\(wr.alloc (.cells c t)).heap[wr.heap.size]?=some (.cells c t (0,0))):=fun c t=>⟨below_alloc _ _,heap_alloc_new wr _⟩
  have HWL:Hid (∀ c,Wt B b out (wr.alloc (.cells c 170))/\Fr B b w (wr.alloc (.cells c 170))/\w.heap.size<=(wr.alloc (.cells c 170)).heap.size):=fun c=>⟨HW1.out.later (below_alloc _ _),HF1.out.trans (Fr.of (below_alloc _ _) (by omega)),by rw[World.size_alloc];omega⟩
  obtain⟨X,HXX⟩:∃ X,Hid (X=wr.heap.size):=⟨_,rfl⟩;have hXb:b<X:=by rw[HXX.out];exact HW1.out.lt
  have hXw:w.heap.size<=X:=by rw[HXX.out];exact hs1
  have hqA:((n:Int) / 256 != 0)=decide (256<=n):=by by_cases h:256<=n<;>simp[h]<;>omega
  have hqB:((n:Int) / 65536 != 0)=decide (65536<=n):=by by_cases h:65536<=n<;>simp[h]<;>omega
  have hqC:((n:Int) / 4294967296 != 0)=false:=by simp;omega
  by_cases hend:(k=0/\n<256)\/(k=1/\n<65536)\/k=2
  ·have HVV:Hid (V=92::c::hexL kd n):=by
    have hC:=HC.out;rw[HV.out];show _=_;rcases hend with ⟨rfl,hb⟩ | ⟨rfl,hb⟩ | rfl
    ·cases hC;rw[if_pos hb]
    ·cases hC;rw[if_neg (by have:=n1 (by decide);omega),if_pos hb]
    ·cases hC;rw[if_neg (by have:=n2 (by decide);omega),if_neg (by have:=n2 (by decide);omega)]
   have hkd:kd<=8/\1<=kd:=by
    have hC:=HC.out;rcases hend with ⟨rfl,hb⟩ | ⟨rfl,hb⟩ | rfl<;>(cases hC;decide)
   obtain⟨hkd8,hkd1⟩:=hkd;obtain⟨W1,HW1'⟩:∃ W1,Hid (W1=wr.alloc (.cells #[.int .u8 (c.toNat:Int),.int .i64 (kd:Int)] 170)):=⟨_,rfl⟩;have HS1:Hid (Wt B b out W1/\Fr B b w W1/\w.heap.size<=W1.heap.size/\W1.heap[X]?=some (.cells #[.int .u8 (c.toNat:Int),.int .i64 (kd:Int)] 170 (0,0))):=by rw[HW1'.out,HXX.out];exact⟨(HWL.out _).1,(HWL.out _).2.1,(HWL.out _).2.2,(HAL.out _ _).2⟩
   rcases hend with ⟨rfl,hb⟩ | ⟨rfl,hb⟩ | rfl
   all_goals
    obtain⟨hcE,hkE⟩:=Prod.mk.inj HC.out;clear HC HAL HWL HW1 HF1 n1 n2;go_upto_region 4 with fail
    rw[<-HXX.out];have hW:∀ (u v:Int),(c.toNat:Int)=u->(kd:Int)=v->wr.alloc (.cells #[.int .u8 u,.int .i64 v] 170)=W1:=fun u v e1 e2=>by rw[HW1'.out,<-e1,<-e2]
    rw[hW _ _ (by rw[hcE];rfl) (by rw[hkE];rfl)];clear hW hcE hkE HW1' hqA hqB hqC HXX
    try clear hb
    go_wp2_with fail;have hsW:=HS1.out.2.2.1;refine(wByte 92 _ HS1.out.1 (by omega) (by omega)).mono ?_;rintro e w2 ⟨rfl,hW2,hF2⟩;have HX3:Hid (w2.heap[X]?=some (.cells #[.int .u8 (c.toNat:Int),.int .i64 (kd:Int)] 170 (0,0))):=hF2.keep HS1.out.2.2.2 (by omega) (fun c fz e=>by cases e);have HW3:Hid (Wt B b (out++[92]) w2):=hW2;have HF3:Hid (Fr B b w w2):=HS1.out.2.1.trans hF2;have c0:w2.cell? ⟨X,0,none⟩=some (.int .u8 (c.toNat:Int)):=by rw[Lib.cell_of_heap HX3.out];rfl
    have hs2:w.heap.size<=w2.heap.size:=HF3.out.1.size
    have HWB:Hid (∀ W,Below w2.heap.size w2 W->Calls Tryz.prog 67 #[.pointer (some ⟨b,0,none⟩),.int .u8 (c.toNat:Int)] W fun e w'=>e=.returned .nilIface/\(Wt B b (out++[92,c]) w'/\Fr B b w w'/\w'.heap[X]?=some (.cells #[.int .u8 (c.toNat:Int),.int .i64 (kd:Int)] 170 (0,0)))):=fun W hb=>by
     refine(wByte c W (HW3.out.later hb) (by simp;omega) (by have:=hb.size;omega)).mono ?_;rintro e w' ⟨q1,q2,q3⟩;have q4:Fr B b w2 w':=(Fr.of hb (by omega)).trans q3;rw[List.append_assoc]at q2;exact⟨q1,q2,HF3.out.trans q4,q4.keep HX3.out (by omega) (fun c fz e=>by cases e)⟩
    clear hW2 hF2 HW3 HF3 HS1;go_wp2;go_region_with (go_at_call 67;refine(HWB.out _ (by first | exact Below.refl _ _ | exact Below.drew (Below.refl _ _) | exact below_drewN (Below.refl _ _) _)).mono ?_;rintro e w3 ⟨rfl,hW3,hF3,hX3⟩)
    all_goals
     have HW4:Hid (Wt B b (out++[92,c]) w3):=hW3;have HF4:Hid (Fr B b w w3):=hF3;have c1:w3.cell? ⟨X,1,none⟩=some (.int .i64 (kd:Int)):=by rw[Lib.cell_of_heap hX3];rfl
     have hs3:w.heap.size<=w3.heap.size:=hF3.1.size;clear hW3 hF3 hX3 HWB HX3 c0 hs2;go_wp2
     go_loopw [6] (fun i wr=>∃ (q:Int) (o:List UInt8),-1<=q/\q+1<=kd/\i=.int .i64 q/\(o.length:Int)+q+1=out.length+2+kd/\Wt B b o wr/\Fr B b w wr/\w.heap.size<=wr.heap.size/\o++hexL (q+1).toNat n=out++V) (fun i _=>(intOf i+1).toNat)
     case atStart=>exact⟨(kd:Int)-1,out++[92,c],by omega,by omega,rfl,by simp;omega,HW4.out,HF4.out,hs3,by rw[HVV.out,show ((kd:Int)-1+1).toNat=kd by omega];simp⟩
     case round =>
      obtain⟨q,o,hq0,hq1,rfl,hol,hW5,hF5,hs5,he⟩:=hrel;have HW5:Hid (Wt B b o wr):=hW5;have HF5:Hid (Fr B b w wr):=hF5;have HE:Hid (o++hexL (q+1).toNat n=out++V):=he;clear hW5 hF5 he HW4 HF4;have z0:IntKind.i64.wrap 0=0:=by decide
      have z1:IntKind.i64.wrap 4=4:=by decide
      have z2:IntKind.i64.wrap 8=8:=by decide
      have z3:IntKind.i64.wrap 12=12:=by decide
      have z4:IntKind.i64.wrap 16=16:=by decide
      have z5:IntKind.i64.wrap 20=20:=by decide
      have z6:IntKind.i64.wrap 24=24:=by decide
      have z7:IntKind.i64.wrap 28=28:=by decide
      by_cases hqn:q= -1
      ·subst hqn;have HEE:Hid (o=out++V):=by have:=HE.out;rw[show ((-1:Int)+1).toNat=0 from rfl,hexL,List.append_nil]at this;exact this
       go_wp2;refine bodyPost_ret (v:=.tuple #[]) (by simp[results,Tryz.results92,go_sem]) rfl ⟨rfl,?_,HF5.out⟩;rw[<-HEE.out];exact HW5.out
      ·obtain⟨p,rfl⟩:=Int.eq_ofNat_of_zero_le (show 0<=q by omega);have HEE:Hid ((o++[hxd (n / 16 ^ p % 16)])++hexL p n=out++V):=by have:=HE.out;rw[show (((p:Nat):Int)+1).toNat=p+1 by omega,hexL]at this;rw[List.append_assoc];exact this
       obtain⟨d,hd⟩:∃ d,d=n / 16 ^ p % 16:=⟨_,rfl⟩;have hd16:d<16:=by omega
       have hand:bits .and .i64 ((n:Int) / (16:Int) ^ p) 15=(d:Int):=by
        have e:(n:Int) / (16:Int) ^ p=((n / 16 ^ p:Nat):Int):=by rw[Int.natCast_ediv,Int.natCast_pow];rfl
        have hm:=Nat.div_le_self n (16 ^ p);rw[e];clear e HEE;generalize n / 16 ^ p=m at hd hm |-;rw[and15 _ (by omega) (by omega)];omega
       rw[<-hd]at HEE;clear hd HE;have hdx:∀ h,(⟨#[48,49,50,51,52,53,54,55,56,57,97,98,99,100,101,102]⟩:ByteArray)[d]'h=hxd d:=fun h=>digs ⟨d,hd16⟩ h
       have hp0:(0:Int)<=(p:Int):=by omega
       have hp7:p<=7:=by omega
       have HWB:Hid (∀ W,Below wr.heap.size wr W->Calls Tryz.prog 67 #[.pointer (some ⟨b,0,none⟩),.int .u8 ((hxd d).toNat:Int)] W fun e w'=>e=.returned .nilIface/\(Wt B b (o++[hxd d]) w'/\Fr B b w w')):=fun W hb=>by
        refine(wByte (hxd d) W (HW5.out.later hb) (by omega) (by have:=hb.size;omega)).mono ?_;rintro e w' ⟨q1,q2,q3⟩;exact⟨q1,q2,HF5.out.trans ((Fr.of hb (by omega)).trans q3)⟩
       clear HW5 HF5;rcases(show p=0\/p=1\/p=2\/p=3\/p=4\/p=5\/p=6\/p=7 by omega)with rfl | rfl | rfl | rfl | rfl | rfl | rfl | rfl
       all_goals simp only[Int.reducePow,Int.ediv_one]at hand
       all_goals
        go_wp2;go_region_with (go_at_call 67;refine(HWB.out _ (by first | exact Below.refl _ _ | exact Below.drew (Below.refl _ _) | exact below_drewN (Below.refl _ _) _)).mono ?_;rintro e w5 ⟨rfl,hW6,hF6⟩)
        all_goals
         have HW6:Hid (Wt B b (o++[hxd d]) w5):=hW6;have HF6:Hid (Fr B b w w5):=hF6;have hs6:w.heap.size<=w5.heap.size:=hF6.1.size;clear hW6 hF6 HWB;go_wp2;go_roundw
         case rel=>refine⟨_,o++[hxd d],?_,?_,rfl,by rw[List.length_append];simp;omega,HW6.out,HF6.out,hs6,HEE.out⟩<;>omega
         case measure=>(simp[intOf]<;>omega)
  ·have hcon:(k=0/\256<=n)\/(k=1/\65536<=n):=by omega
   clear HC;rcases hcon with ⟨rfl,hb⟩ | ⟨rfl,hb⟩
   all_goals
    clear n1 n2 HW1 HF1 HAL;go_wp2;go_roundw
    case rel=>first | exact⟨1,by decide,by decide,rfl,fun _=>by omega,fun h=>absurd h (by decide),(HWL.out _).1,(HWL.out _).2.1,(HWL.out _).2.2⟩ | exact⟨2,by decide,by decide,rfl,fun _=>by omega,fun _=>by omega,(HWL.out _).1,(HWL.out _).2.1,(HWL.out _).2.2⟩
    case measure=>simp[intOf]
end Quo
end Go.Proofs.YtidhpmcmbooaoaaGreatDoor
