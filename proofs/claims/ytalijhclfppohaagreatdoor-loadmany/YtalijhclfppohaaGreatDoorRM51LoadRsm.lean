/- . -/
import Derived.Test.YtalijhclfppohaaGreatDoorRM50LoadOne
import Derived.Deep.RegionWith
set_option linter.unusedSimpArgs false
set_option linter.unusedVariables false
set_option maxRecDepth 100000
namespace Go.Proofs.YtalijhclfppohaaGreatDoor
namespace Lod
open Utf Rws Pln Flw Tre
open Go.RowKit Go.Shelf
open Blk (Rw RwAt z3)
set_option maxHeartbeats 8000000
theorem KAt.laterB {w w':World} {d len:Nat} {ad:Option Addr} {ks:List Tr} (h:KAt w d ad len ks) (hb:Below w.heap.size w w'):KAt w' d ad len ks:=by
 refine⟨h.1,fun hp=> ?_⟩;obtain⟨b,off,e,hlt,hc⟩:=h.2 hp;refine⟨b,off,e,Nat.lt_of_lt_of_le hlt hb.size,fun i hi=> ?_⟩;obtain⟨c0,c1,c2,c3,x0,x1,x2,x3,hx⟩:=hc i hi;exact⟨c0,c1,c2,c3,(hb.cell (p:=⟨b,off+i*4,none⟩) hlt).trans x0,(hb.cell (p:=⟨b,off+i*4+1,none⟩) hlt).trans x1,(hb.cell (p:=⟨b,off+i*4+2,none⟩) hlt).trans x2,(hb.cell (p:=⟨b,off+i*4+3,none⟩) hlt).trans x3,hx.later hb (Nat.le_refl _)⟩
theorem rsameL_any (ad ad':Option Addr) (n cap cap':Nat) (ks:List Tr) (w:World) (h:KAt w 129 ad n ks) (h':KAt w 129 ad' n ks) (hc:n<=cap) (hc':n<=cap') (hm:cap<=9223372036854775807) (hm':cap'<=9223372036854775807) :
  Calls Tryz.prog 15 #[.slice ad n cap,.slice ad' n cap'] w fun e w'=>e=.returned (.bool true)/\Below w.heap.size w w':=by
 have HK:Hid (KAt w 129 ad n ks):=h;have HK':Hid (KAt w 129 ad' n ks):=h';clear h h';go_enter Tryz.func15,Tryz.ntmps15;go_wp2_with fail
 go_loopw [5] (fun ui wr=>∃ i:Nat,i<=n/\ui=.int .i64 (i:Int)/\Hid (Below w.heap.size w wr)) (fun ui _=>n-(intOf ui).toNat)
 case atStart=>exact⟨0,Nat.zero_le _,rfl,Below.refl _ _⟩
 case round =>
  obtain⟨i,hi,rfl,HB⟩:=hrel;by_cases hlt:i<n
  ·have hi0:(0:Int)<=(i:Int):=by omega
   have hi1:(i:Int)<(n:Int):=by omega
   obtain⟨b,off,rfl,hb,hcell⟩:=(KAt.laterB HK.out HB.out).2 (by omega);obtain⟨c0,c1,c2,c3,x0,x1,x2,x3,hx⟩:=hcell i hlt;obtain⟨b',off',rfl,hb',hcell'⟩:=(KAt.laterB HK'.out HB.out).2 (by omega);obtain⟨y0,y1,y2,y3,z0,z1,z2,z3,hy⟩:=hcell' i hlt
   have HC:Hid (∀ m,Calls Tryz.prog 16 #[.agg #[c0,c1,c2,c3],.agg #[y0,y1,y2,y3]] (wr.drewN m) fun e w'=>e=.returned (.bool true)/\Hid (Below w.heap.size w w')):=fun m=>by
    have b1:=Blk.below_drewN (Below.refl wr.heap.size wr) m;have b2:=Blk.below_drewN HB.out m;exact(rsame_is (hx.later b1 (Nat.le_refl _)) (hy.later b1 (Nat.le_refl _))).mono (fun e w' q=>⟨q.1,b2.trans (q.2.mono b2.size)⟩)
   clear hcell hcell' hx hy;go_wp2_with fail;go_region_with (go_at_call 16;refine(HC.out _).mono ?_;rintro e w2 ⟨rfl,B2⟩)
   all_goals
    go_wp2_with fail;go_roundw
    case rel=>exact⟨i+1,by omega,by go_num,B2.out⟩
    case measure=>(simp[intOf]<;>omega)
  ·have e:i=n:=by omega
   subst e;go_wp2_with fail;go_ret;exact⟨rfl,HB.out⟩
end Lod
namespace Lod
open Utf Rws Pln Flw Tre
open Go.RowKit Go.Shelf
open Blk (Rw RwAt z3 StrsAt)
set_option maxHeartbeats 8000000
theorem own_keepG {C:Nat} {W W':World} {e:TypeId} {k:Nat} {v:Value} {n:Nat} {xs:List Value} (h:W.ownsRow C e k v n xs) (hk:∀ j,C<=j->j<W.heap.size->W'.heap[j]?=W.heap[j]?):W'.ownsRow C e k v n xs:=by
 refine⟨h.1,?_⟩;rcases h.2 with h0 | ⟨g,cap,cur,rfl,hb,hg,hc⟩
 ·exact .inl h0
 ·exact .inr ⟨g,cap,cur,rfl,hb,(hk g hb (h.lt g rfl).2).trans hg,hc⟩
theorem KAtP.kat {c len:Nat} {w:World} {ad:Option Addr} {ks:List Tr} (h:KAtP c w ad len ks):KAt w 129 ad len ks :=
 ⟨h.1,fun hp=>by
  obtain⟨b,off,ha,_,hlt,hc⟩:=h.2 hp;refine⟨b,off,ha,hlt,fun i hi=> ?_⟩;obtain⟨c0,c1,c2,c3,h0,h1,h2,h3,ht⟩:=hc i hi;exact⟨c0,c1,c2,c3,h0,h1,h2,h3,TrP.v ht⟩⟩
structure MwS (w wr:World) (BK:Nat) (v:Value) (i:Nat) (xs:List Value) (ts:List Tr) (b1 b2:Int):Prop where
 bl:Below w.heap.size w wr
 bx:Bx wr BK #[.int .i64 b1,.int .i64 b2] 32
 own:wr.ownsRow (BK+1) 35 4 v i xs
 kd:KdQ (Out (BK+1) v) wr 129 xs ts
 hB:BK=w.heap.size
section
variable {w wr W':World} {BK i:Nat} {v:Value} {xs:List Value} {ts:List Tr} {b1 b2:Int}
theorem MwS.later (h:MwS w wr BK v i xs ts b1 b2) (hb:Below wr.heap.size wr W'):MwS w W' BK v i xs ts b1 b2 :=
 ⟨h.bl.trans (hb.mono h.bl.size),h.bx.later hb,own_keepG h.own (fun j _ hj=>hb.block j hj),h.kd.later hb,h.hB⟩
theorem MwS.bad (h:MwS w wr BK v i xs ts b1 b2) (c1 c2:Int):MwS w ((wr.setCell ⟨BK,0,none⟩ (.int .i64 c1)).setCell ⟨BK,1,none⟩ (.int .i64 c2)) BK v i xs ts c1 c2:=by
 have hk:∀ j,BK+1<=j->((wr.setCell ⟨BK,0,none⟩ (.int .i64 c1)).setCell ⟨BK,1,none⟩ (.int .i64 c2)).heap[j]?=wr.heap[j]?:=fun j hj=>by
  rw[Below.heap_setCell _ _ _ _ (fun e=>by simp only at e;omega),Below.heap_setCell _ _ _ _ (fun e=>by simp only at e;omega)]
 have hB:=h.hB;exact⟨(h.bl.setCell (p:=⟨BK,0,none⟩) (by show _<=BK;omega) _).setCell (p:=⟨BK,1,none⟩) (by show _<=BK;omega) _,(h.bx.set 0 _).set 1 _,own_keepG h.own (fun j hj _=>hk j hj),h.kd.keep (by simp[World.setCell]) (fun j a _=>hk j a.1),h.hB⟩
theorem trq_laterB {P:Nat->Prop} {w w1:World} {d:Nat} {v:Value} {t:Tr} (h:TrQ P w d v t) (hb:Below w.heap.size w w1):TrQ P w1 d v t:=TrQ.keep hb.size (fun j _ hj=>hb.block j hj) h
theorem MwS.bad1 (h:MwS w wr BK v i xs ts b1 b2) (c2:Int):MwS w (wr.setCell ⟨BK,1,none⟩ (.int .i64 c2)) BK v i xs ts b1 c2:=by
 have hk:∀ j,BK+1<=j->(wr.setCell ⟨BK,1,none⟩ (.int .i64 c2)).heap[j]?=wr.heap[j]?:=fun j hj=>Below.heap_setCell _ _ _ _ (fun e=>by simp only at e;omega)
 have hB:=h.hB;exact⟨h.bl.setCell (p:=⟨BK,1,none⟩) (by show _<=BK;omega) _,h.bx.set 1 _,own_keepG h.own (fun j hj _=>hk j hj),h.kd.keep (by simp[World.setCell]) (fun j a _=>hk j a.1),h.hB⟩
theorem mnS_same {A:Mn} {x:Ln} (h:(paD (rwW x)).2=(0,0)\/A.bad≠(0,0)):(mnS A x).bad=A.bad:=by
 show (if A.bad=(0,0)then ((paD (rwW x)).2.1,gS (mnA A) (paD (rwW x)).2.2)else A.bad)=A.bad;by_cases hb:A.bad=(0,0)
 ·rcases h with h | h
  ·rw[if_pos hb,hb,h,gS_zero]
  ·exact absurd hb h
 ·rw[if_neg hb]
theorem mnS_new {A:Mn} {x:Ln} (h:A.bad=(0,0)):(mnS A x).bad=((paD (rwW x)).2.1,gS (mnA A) (paD (rwW x)).2.2):=if_pos h
theorem MwS.push (h:MwS w wr BK v i xs ts b1 b2) {k:Int} {x y:ByteArray} {ad:Option Addr} {l c:Nat} {T:Tr} (ht:TrQ (Out (BK+1) v) wr 129 (.agg #[.int .i64 k,.string x,.string y,.slice ad l c]) T) {v':Value} (hown:W'.ownsRow (BK+1) 35 4 v' (i+1) (xs++[.int .i64 k,.string x,.string y,.slice ad l c])) (hg:wr.grownBy W' v.ownBlock) (hat:v'.ownBlock=v.ownBlock\/v'.ownBlock=some wr.heap.size):MwS w W' BK v' (i+1) (xs++[.int .i64 k,.string x,.string y,.slice ad l c]) (ts++[T]) b1 b2:=by
 have hrow:∀ k,v.ownBlock=some k->BK+1<=k:=fun k hk=>(h.own.lt k hk).1
 have hkeep:∀ j,j<wr.heap.size->(∀ k,v.ownBlock=some k->j≠k)->W'.heap[j]?=wr.heap[j]?:=fun j hj hne=>hg.block j hj (fun e=>hne j e.symm rfl)
 have hout:∀ j,Out (BK+1) v j/\j<wr.heap.size->Out (BK+1) v' j:=fun j a=>⟨a.1.1,fun k hk=>by
  rcases hat with e | e
  ·rw[e]at hk;exact a.1.2 k hk
  ·rw[e]at hk;cases hk;exact Nat.ne_of_lt a.2⟩
 have k2:KdQ (fun j=>Out (BK+1) v j/\j<wr.heap.size) wr 129 (xs++[.int .i64 k,.string x,.string y,.slice ad l c]) (ts++[T]):=(h.kd.app (kdq_one ht)).wide (fun j a c=>⟨a,c⟩);have hBl:=h.bx.lt;have hB:=h.hB;exact⟨h.bl.grown hg (by have:=h.bl.size;omega) (fun k hk=>by have:=hrow k hk;omega),(hkeep BK hBl (fun k hk=>by have:=hrow k hk;omega)).trans h.bx,hown,(k2.keep hg.size (fun j a _=>hkeep j a.2 a.1.2)).wide (fun j a _=>hout j a),h.hB⟩
end
theorem mw_app {ops:Array Oper} {rest:List Oper} {o:Oper} {a:Act} {Q:Exit->Act->World->Prop} (hgd:o.guard=none) (p q:Operand) (ho:o.op=.call { callee:=.builtin .append,args:=#[p,q],argTypes:=#[29,29] }) {w W:World} {BK i vc:Nat} {va:Option Addr} {xs:List Value} {ts:List Tr} {b1 b2 k:Int} {x y:ByteArray} {ad:Option Addr} {l c:Nat} {T:Tr} (hp:a.eval p=.slice va i vc) (hq:a.eval q=.slice (some ⟨W.heap.size,0,none⟩) 1 1) (hi:i<100)
  (HT:TrQ (Out (BK+1) (.slice va i vc)) W 129 (.agg #[.int .i64 k,.string x,.string y,.slice ad l c]) T) (HS:MwS w W BK (.slice va i vc) i xs ts b1 b2) (h:∀ v' w',Hid (MwS w w' BK v' (i+1) (xs++[.int .i64 k,.string x,.string y,.slice ad l c]) (ts++[T]) b1 b2)->wpList Tryz.prog ops Q rest (a.put o.dst v') w'):wpList Tryz.prog ops Q (o::rest) a (W.alloc (.cells #[.int .i64 k,.string x,.string y,.slice ad l c] 35)):=by
 obtain⟨it,hit,hz0,hz1,hz2⟩:=info_parts infoTree;have bA:=below_alloc W (.cells #[.int .i64 k,.string x,.string y,.slice ad l c] 35);have HS8:=HS.later bA;have hl:=HS8.bx.lt;exact wpList_append_own_at _ hgd p q 29 ho (BK+1) 35 it (.agg zT) 4 64 Tryz.underlying29 hit hz0 hz1 hz2 rfl (by decide) _ _ _ hp HS8.own ⟨W.heap.size,0,none⟩ 1 1 [.int .i64 k,.string x,.string y,.slice ad l c] hq rfl (cells_z4 _ _ _ _ _ _ (Bx.new _ _ _)) (one4 _ _ _ _ _ _) (by unfold maxLen;omega) (by omega) (by omega) (fun v' w' h1 h2 _ h3=>h v' w' (HS8.push (trq_laterB HT bA) h1 h2 h3))
theorem lmany_core (a:Option Addr) (len cap:Nat) (X:List Ln) (w:World) (hX:StrsAt w a len X) (hcl:len<=cap) (hcm:cap<=9223372036854775807) (hxl:∀ x∈X,x.length<=140737488351232) (hT:Tb w):Calls Tryz.prog 4 #[.slice a len cap] w fun e w'=>e=.returned (.bool true)/\Below w.heap.size w w':=by
 have HA:Hid (∀ W,Below w.heap.size w W->Calls Tryz.prog 7 #[] W fun e W'=>e=.returned (.bool true)/\Hid (Below w.heap.size w W')):=fun W b=>(alive_any (hT.later b)).mono (fun e W' q=>⟨q.1,b.trans (q.2.mono b.size)⟩)
 have HTb:Hid (Tb w):=hT;have HX:Hid (StrsAt w a len X/\∀ x∈X,x.length<=140737488351232):=⟨hX,hxl⟩;clear hT hX hxl;by_cases h0:len=0
 ·subst h0;go_enter Tryz.func4,Tryz.ntmps4;go_wp2_with (go_at_call 7;refine(HA.out _ (Below.refl _ _)).mono ?_;rintro e w1 ⟨rfl,H1⟩);go_ret;exact⟨rfl,H1.out⟩
 by_cases h64:64<len
 ·have h64i:(64:Int)<(len:Int):=by omega
  go_enter Tryz.func4,Tryz.ntmps4;go_wp2_with (go_at_call 7;refine(HA.out _ (Below.refl _ _)).mono ?_;rintro e w1 ⟨rfl,H1⟩);go_ret;exact⟨rfl,H1.out⟩
 have h64i: ¬ (64:Int)<(len:Int):=by omega
 have h0i: ¬ (len:Int)=0:=by omega
 have HM1:Hid (∀ l:Ln,mk l++(⟨#[10]⟩:ByteArray)=mk (l++[10])):=fun l=>mk_app l [10]
 have HM2:Hid (∀ l:Ln,mk l++(⟨#[45,45,45,10]⟩:ByteArray)=mk (l++[45,45,45,10])):=fun l=>mk_app l [45,45,45,10]
 have HM3:Hid (∀ l l':Ln,mk l++mk l'=mk (l++l')):=fun l l'=>mk_app l l'
 go_enter Tryz.func4,Tryz.ntmps4;go_wp2_with fail;have HS0:Hid (MwS w (w.alloc (.cells #[.int .i64 0,.int .i64 0] 32)) w.heap.size (.slice none 0 0) 0 [] [] 0 0):=⟨below_alloc _ _,Bx.new _ _ _,World.ownsRow_nil _ _ _ _,KdQ.nil _,rfl⟩;generalize w.alloc (.cells #[.int .i64 0,.int .i64 0] 32)=W0 at HS0 |-;obtain⟨BK,hBK⟩:∃ K,K=w.heap.size:=⟨_,rfl⟩;have HBK:Hid (BK=w.heap.size):=hBK;rw[<-hBK]at HS0
 try rw[<-hBK]
 clear hBK
 go_loopw [3,4,5,27] (fun u3 u4 u5 u27 wr=>∃ (i:Nat) (A:Mn) (xs:List Value),i<=len/\u27=.int .i64 (i:Int)/\u3=.string (mk A.text)/\u5=.int .i64 (A.n:Int)/\Hid (MnX A i)/\Hid (MwS w wr BK u4 i xs A.ts A.bad.1 A.bad.2)) (fun _ _ _ u27 _=>len-(intOf u27).toNat)
 case atStart=>exact⟨0,mn0,[],Nat.zero_le _,rfl,rfl,rfl,mnx_start,HS0.out⟩
 case round =>
  obtain⟨i,A,xs,hi,rfl,rfl,rfl,HMX,HS⟩:=hrel;obtain⟨va,vc,rfl⟩:=slice_of_own HS.out.own;have hA1:=HMX.out.tx;have hA2:=HMX.out.nb;have hts:(mk A.text).size<=51520:=by rw[mk_size];omega
  have hnn:(A.n:Int)<=51520:=by omega
  have hn0:(0:Int)<=(A.n:Int):=by omega
  by_cases hlt:i<len
  ·have hi0:(0:Int)<=(i:Int):=by omega
   have hi1:(i:Int)<(len:Int):=by omega
   obtain⟨b,off,rfl,hb,hcell⟩:=(HX.out.1.later HS.out.bl (Nat.le_refl _)).2 (by omega);have x0:=hcell i hlt;obtain⟨s,hs⟩:∃ s,s=X.getD i []:=⟨_,rfl⟩;rw[<-hs]at x0;clear hcell hs;have hss:(mk s).size=s.length:=mk_size s;by_cases h8:800<s.length
   ·have h8i:(800:Int)<((mk s).size:Int):=by rw[hss];omega
    go_wp2_with (go_at_call 7;refine(HA.out _ HS.out.bl).mono ?_;rintro e w1 ⟨rfl,H1⟩);go_ret;exact⟨rfl,H1.out⟩
   have h8i: ¬ (800:Int)<((mk s).size:Int):=by rw[hss];omega
   have hs8:(mk s).size<=800:=by omega
   have HW:Hid (∀ W,Calls Tryz.prog 11 #[.string (mk s++(⟨#[10]⟩:ByteArray))] W fun e W'=>e=.returned (.bool (whO (s++[10])))/\Hid (Below W.heap.size W W')):=fun W=>by
    rw[HM1.out];exact whole_any (s++[10]) (by rw[List.length_append,List.length_singleton];omega) W
   cases hw:whO (s++[10])
   ·rw[hw]at HW;go_wp2_with (first | (go_at_call 11;refine(HW.out _).mono ?_;rintro e w1 ⟨rfl,H1⟩;have HS1:Hid (MwS w w1 BK (.slice va i vc) i xs A.ts A.bad.1 A.bad.2):=HS.out.later H1.out) | (go_at_call 7;refine(HA.out _ HS1.out.bl).mono ?_;rintro e w2 ⟨rfl,H2⟩));go_ret;exact⟨rfl,H2.out⟩
   rw[hw]at HW;have HMN:Hid (MnX (mnS A (s++[10])) (i+1)):=mnx_step HMX.out (by omega) (by omega) hw
   have HP:Hid (∀ W,Below w.heap.size w W->Calls Tryz.prog 12 #[.string (mk s++(⟨#[10]⟩:ByteArray))] W (OnResP (paD (rwW (s++[10]))) W)):=fun W hb=>by
    have h:=one_anyP (s++[10]) (by rw[List.length_append,List.length_singleton];omega) W (HTb.out.later hb) (good_docs (by rw[List.length_append,List.length_singleton];omega));rw[on_whole hw]at h;rw[HM1.out];exact h
   have HR:Hid (∀ W,Calls Tryz.prog 13 #[.string (mk s++(⟨#[10]⟩:ByteArray))] W (RdRes (s++[10]) W)):=fun W=>by
    rw[HM1.out];exact read_rw (s++[10]) (by rw[List.length_append,List.length_singleton];omega) W
   have HZ:Hid (i=0 ↔ A.text=[]):=HMX.out.z
   have hrl:(rwW (s++[10])).length<=801:=by
    have:=(rwW_small (s:=s++[10]) (by rw[List.length_append,List.length_singleton];omega)).1;rw[List.length_append,List.length_singleton]at this;omega
   have hpb:=paD_bd (x:=s++[10]);obtain⟨Q,hQ⟩:∃ Q,Q=paD (rwW (s++[10])):=⟨_,rfl⟩;have HQ:Hid (paD (rwW (s++[10]))=Q):=hQ.symm;rw[<-hQ]at HP hpb;have HTS:Hid ((mnS A (s++[10])).ts=A.ts++[Q.1]):=by rw[hQ];rfl
   obtain⟨T,q1,q2⟩:=Q;unfold OnResP at HP;dsimp only at HP hpb HTS;obtain⟨hp1,hp2⟩:=hpb;clear hQ;by_cases hiz:i=0
   ·have hi00: ¬ (0:Int)<(i:Int):=by omega
    have HMA:Hid (mnA A=A.n):=by show mnA A=_;unfold mnA;rw[if_pos (HZ.out.1 hiz)];rfl
    have HTX:Hid ((mnS A (s++[10])).text=s++[10]):=by show (mnS A (s++[10])).text=_;unfold mnS;simp only[HZ.out.1 hiz,if_true,List.nil_append]
    have HE:Hid (A.text=[]):=HZ.out.1 hiz;clear hiz;go_upto_region 15 with (go_at_call 11;refine(HW.out _).mono ?_;rintro e w1 ⟨rfl,H1⟩;have HS1:Hid (MwS w w1 BK (.slice va i vc) i xs A.ts A.bad.1 A.bad.2):=HS.out.later H1.out)
    go_upto_region 16 with (go_at_call 12;refine(HP.out _ HS1.out.bl).mono ?_;rintro e w2 ⟨qk,qx,qy,qd,ql,qc,rfl,HT2,H2⟩)
    have two:=two_b w2 #[.int .i64 qk,.string qx,.string qy,.slice qd ql qc] #[.int .i64 q1,.int .i64 q2] 35 32;have HS6:Hid (MwS w ((w2.alloc (.cells #[.int .i64 qk,.string qx,.string qy,.slice qd ql qc] 35)).alloc (.cells #[.int .i64 q1,.int .i64 q2] 32)) BK (.slice va i vc) i xs A.ts A.bad.1 A.bad.2):=(HS1.out.later H2.out).later two.1
    have HT6:Hid (TrQ (Out (BK+1) (.slice va i vc)) ((w2.alloc (.cells #[.int .i64 qk,.string qx,.string qy,.slice qd ql qc] 35)).alloc (.cells #[.int .i64 q1,.int .i64 q2] 32)) 129 (.agg #[.int .i64 qk,.string qx,.string qy,.slice qd ql qc]) T):=by
     have hbl:=HS1.out.bx.lt;have hv:∀ k,(Value.slice va i vc).ownBlock=some k->k<w1.heap.size:=fun k hk=>(HS1.out.own.lt k hk).2
     exact TrQ.wide (fun j hj _=>⟨by omega,fun k hk=>by have:=hv k hk;omega⟩) (HT2.out.later two.1)
    have hK9:BK<w2.heap.size:=(HS1.out.later H2.out).bx.lt;generalize (w2.alloc (.cells #[.int .i64 qk,.string qx,.string qy,.slice qd ql qc] 35)).alloc (.cells #[.int .i64 q1,.int .i64 q2] 32)=W6 at HS6 HT6 two |-;have N9:Hid (Bx W6 w2.heap.size #[.int .i64 qk,.string qx,.string qy,.slice qd ql qc] 35/\Bx W6 (w2.heap.size+1) #[.int .i64 q1,.int .i64 q2] 32):=⟨two.2.1,two.2.2⟩;obtain⟨K10,hK10⟩:∃ K,K=w2.heap.size+1:=⟨_,rfl⟩;obtain⟨K9,hK9'⟩:∃ K,K=w2.heap.size:=⟨_,rfl⟩;rw[<-hK10,<-hK9']at N9 |-;have m9:BK≠K9:=by omega
    have m10:BK≠K10:=by omega
    clear two HT2 H1 H2 HS1 hK10 hK9' hK9 HS HP HW;obtain⟨t0,t1,t2,t3⟩:=N9.out.1.c4;obtain⟨f0,f1⟩:=N9.out.2.c2;obtain⟨c0,c1⟩:=HS6.out.bx.c2;have z0:=HS6.out.bx.fz 0;have z1:=HS6.out.bx.fz 1;by_cases hq:q1=0
    ·have HF0:Hid ((paD (rwW (s++[10]))).2=(0,0)):=fault_form.1 (by rw[HQ.out];exact hq);have hq2:q2=0:=by have h:=HF0.out;rw[HQ.out]at h;exact(Prod.mk.inj h).2
     subst hq;subst hq2;have he1:=neq_flt 0 0 0 0;go_wp2_with (first | (at_builtin;refine mw_app rfl _ _ rfl rfl rfl (by omega) HT6.out HS6.out ?_;intro v9 w9 HS9) | (go_at_call 13;refine(HR.out _).mono ?_;rintro e wz ⟨az,capz,rfl,hrz,hbz⟩;have HSZ:=(HS9.out.later hbz.out).later (below_alloc _ (.cells #[.int .i64 (rwF (s++[10])).1,.int .i64 (rwF (s++[10])).2] 32))));go_roundw
     case rel =>
      refine⟨i+1,mnS A (s++[10]),xs++[.int .i64 qk,.string qx,.string qy,.slice qd ql qc],by omega,by go_num,?_,?_,HMN.out,?_⟩
      ·show Value.string _=Value.string (mk (mnS A (s++[10])).text);rw[HTX.out,HM1.out,HM3.out,HE.out,List.nil_append]
      ·show Value.int .i64 _=Value.int .i64 ((mnA A+(rwW (s++[10])).length:Nat):Int);rw[HMA.out];go_num
      ·have e1:(mnS A (s++[10])).ts=A.ts++[T]:=HTS.out;have e2:(mnS A (s++[10])).bad=_:=mnS_same (.inl HF0.out);rw[e1,e2];exact HSZ
     case measure=>(simp[intOf]<;>omega)
    ·have HF1:Hid ((paD (rwW (s++[10]))).2=(q1,q2)):=by rw[HQ.out];exact rfl
     have hqb:(q1==0)=false:=by simpa using hq
     have he1:=neq_flt q1 0 q2 0;rw[hqb,Bool.false_and]at he1;by_cases hbd:A.bad=(0,0)
     ·have HBD:Hid (A.bad=(0,0)):=hbd;rw[hbd]at c0 c1 HS6;have he2:=eql_flt 0 0 0 0;clear hbd hq;by_cases hqp:0<q2
      ·go_upto_region 20 with fail
       have HS7:Hid (MwS w (((W6.setCell ⟨BK,0,none⟩ (.int .i64 q1)).setCell ⟨BK,1,none⟩ (.int .i64 q2)).setCell ⟨BK,1,none⟩ (.int .i64 (q2+(A.n:Int)))) BK (.slice va i vc) i xs A.ts q1 (q2+(A.n:Int))):=(HS6.out.bad q1 q2).bad1 (q2+(A.n:Int));have hkk:∀ j,j≠BK->((((W6.setCell ⟨BK,0,none⟩ (.int .i64 q1)).setCell ⟨BK,1,none⟩ (.int .i64 q2)).setCell ⟨BK,1,none⟩ (.int .i64 (q2+(A.n:Int))))).heap[j]?=W6.heap[j]?:=fun j hj=>by repeat rw[Below.heap_setCell _ _ _ _ (fun e=>hj (by simpa using e))]
       have hsz:W6.heap.size<=((((W6.setCell ⟨BK,0,none⟩ (.int .i64 q1)).setCell ⟨BK,1,none⟩ (.int .i64 q2)).setCell ⟨BK,1,none⟩ (.int .i64 (q2+(A.n:Int))))).heap.size:=by simp[World.setCell]
       have N7:Hid (Bx (((W6.setCell ⟨BK,0,none⟩ (.int .i64 q1)).setCell ⟨BK,1,none⟩ (.int .i64 q2)).setCell ⟨BK,1,none⟩ (.int .i64 (q2+(A.n:Int)))) K9 #[.int .i64 qk,.string qx,.string qy,.slice qd ql qc] 35):=(hkk K9 (fun e=>m9 e.symm)).trans N9.out.1;have HT7:Hid (TrQ (Out (BK+1) (.slice va i vc)) (((W6.setCell ⟨BK,0,none⟩ (.int .i64 q1)).setCell ⟨BK,1,none⟩ (.int .i64 q2)).setCell ⟨BK,1,none⟩ (.int .i64 (q2+(A.n:Int)))) 129 (.agg #[.int .i64 qk,.string qx,.string qy,.slice qd ql qc]) T):=TrQ.keep hsz (fun j hj _=>hkk j (by have:=hj.1;omega)) HT6.out;generalize (((W6.setCell ⟨BK,0,none⟩ (.int .i64 q1)).setCell ⟨BK,1,none⟩ (.int .i64 q2)).setCell ⟨BK,1,none⟩ (.int .i64 (q2+(A.n:Int))))=W7 at HS7 N7 HT7 |-;clear HS6 HT6 N9 hkk hsz c0 c1 t0 t1 t2 t3 f0 f1 z0 z1;obtain⟨t0,t1,t2,t3⟩:=N7.out.c4;go_wp2_with (first | (at_builtin;refine mw_app rfl _ _ rfl rfl rfl (by omega) HT7.out HS7.out ?_;intro v9 w9 HS9) | (go_at_call 13;refine(HR.out _).mono ?_;rintro e wz ⟨az,capz,rfl,hrz,hbz⟩;have HSZ:=(HS9.out.later hbz.out).later (below_alloc _ (.cells #[.int .i64 (rwF (s++[10])).1,.int .i64 (rwF (s++[10])).2] 32))));go_roundw
       case rel =>
        refine⟨i+1,mnS A (s++[10]),xs++[.int .i64 qk,.string qx,.string qy,.slice qd ql qc],by omega,by go_num,?_,?_,HMN.out,?_⟩
        ·show Value.string _=Value.string (mk (mnS A (s++[10])).text);rw[HTX.out,HM1.out,HM3.out,HE.out,List.nil_append]
        ·show Value.int .i64 _=Value.int .i64 ((mnA A+(rwW (s++[10])).length:Nat):Int);rw[HMA.out];go_num
        ·have e1:(mnS A (s++[10])).ts=A.ts++[T]:=HTS.out;have e2:(mnS A (s++[10])).bad=_:=show _=(q1,q2+(A.n:Int))from by rw[mnS_new HBD.out,HQ.out];show (q1,gS (mnA A) q2)=_;unfold gS;rw[if_pos hqp,HMA.out]
         rw[e1,e2];exact HSZ
       case measure=>(simp[intOf]<;>omega)
      ·go_upto_region 20 with fail
       have HS7:Hid (MwS w ((W6.setCell ⟨BK,0,none⟩ (.int .i64 q1)).setCell ⟨BK,1,none⟩ (.int .i64 q2)) BK (.slice va i vc) i xs A.ts q1 q2):=HS6.out.bad q1 q2;have hkk:∀ j,j≠BK->(((W6.setCell ⟨BK,0,none⟩ (.int .i64 q1)).setCell ⟨BK,1,none⟩ (.int .i64 q2))).heap[j]?=W6.heap[j]?:=fun j hj=>by repeat rw[Below.heap_setCell _ _ _ _ (fun e=>hj (by simpa using e))]
       have hsz:W6.heap.size<=(((W6.setCell ⟨BK,0,none⟩ (.int .i64 q1)).setCell ⟨BK,1,none⟩ (.int .i64 q2))).heap.size:=by simp[World.setCell]
       have N7:Hid (Bx ((W6.setCell ⟨BK,0,none⟩ (.int .i64 q1)).setCell ⟨BK,1,none⟩ (.int .i64 q2)) K9 #[.int .i64 qk,.string qx,.string qy,.slice qd ql qc] 35):=(hkk K9 (fun e=>m9 e.symm)).trans N9.out.1;have HT7:Hid (TrQ (Out (BK+1) (.slice va i vc)) ((W6.setCell ⟨BK,0,none⟩ (.int .i64 q1)).setCell ⟨BK,1,none⟩ (.int .i64 q2)) 129 (.agg #[.int .i64 qk,.string qx,.string qy,.slice qd ql qc]) T):=TrQ.keep hsz (fun j hj _=>hkk j (by have:=hj.1;omega)) HT6.out;generalize ((W6.setCell ⟨BK,0,none⟩ (.int .i64 q1)).setCell ⟨BK,1,none⟩ (.int .i64 q2))=W7 at HS7 N7 HT7 |-;clear HS6 HT6 N9 hkk hsz c0 c1 t0 t1 t2 t3 f0 f1 z0 z1;obtain⟨t0,t1,t2,t3⟩:=N7.out.c4;go_wp2_with (first | (at_builtin;refine mw_app rfl _ _ rfl rfl rfl (by omega) HT7.out HS7.out ?_;intro v9 w9 HS9) | (go_at_call 13;refine(HR.out _).mono ?_;rintro e wz ⟨az,capz,rfl,hrz,hbz⟩;have HSZ:=(HS9.out.later hbz.out).later (below_alloc _ (.cells #[.int .i64 (rwF (s++[10])).1,.int .i64 (rwF (s++[10])).2] 32))));go_roundw
       case rel =>
        refine⟨i+1,mnS A (s++[10]),xs++[.int .i64 qk,.string qx,.string qy,.slice qd ql qc],by omega,by go_num,?_,?_,HMN.out,?_⟩
        ·show Value.string _=Value.string (mk (mnS A (s++[10])).text);rw[HTX.out,HM1.out,HM3.out,HE.out,List.nil_append]
        ·show Value.int .i64 _=Value.int .i64 ((mnA A+(rwW (s++[10])).length:Nat):Int);rw[HMA.out];go_num
        ·have e1:(mnS A (s++[10])).ts=A.ts++[T]:=HTS.out;have e2:(mnS A (s++[10])).bad=_:=show _=(q1,q2)from by rw[mnS_new HBD.out,HQ.out];show (q1,gS (mnA A) q2)=_;unfold gS;rw[if_neg (by omega)]
         rw[e1,e2];exact HSZ
       case measure=>(simp[intOf]<;>omega)
     ·have hb1:A.bad.1≠0:=by rcases HMX.out.I.bd with h | h;exact absurd h hbd;exact h
      have HBD:Hid (A.bad≠(0,0)):=hbd;have hbb:(A.bad.1==0)=false:=by simpa using hb1
      have he2:=eql_flt A.bad.1 0 A.bad.2 0;rw[hbb,Bool.false_and]at he2;clear hbd hq hb1;go_wp2_with (first | (at_builtin;refine mw_app rfl _ _ rfl rfl rfl (by omega) HT6.out HS6.out ?_;intro v9 w9 HS9) | (go_at_call 13;refine(HR.out _).mono ?_;rintro e wz ⟨az,capz,rfl,hrz,hbz⟩;have HSZ:=(HS9.out.later hbz.out).later (below_alloc _ (.cells #[.int .i64 (rwF (s++[10])).1,.int .i64 (rwF (s++[10])).2] 32))));go_roundw
      case rel =>
       refine⟨i+1,mnS A (s++[10]),xs++[.int .i64 qk,.string qx,.string qy,.slice qd ql qc],by omega,by go_num,?_,?_,HMN.out,?_⟩
       ·show Value.string _=Value.string (mk (mnS A (s++[10])).text);rw[HTX.out,HM1.out,HM3.out,HE.out,List.nil_append]
       ·show Value.int .i64 _=Value.int .i64 ((mnA A+(rwW (s++[10])).length:Nat):Int);rw[HMA.out];go_num
       ·have e1:(mnS A (s++[10])).ts=A.ts++[T]:=HTS.out;have e2:(mnS A (s++[10])).bad=_:=mnS_same (.inr HBD.out);rw[e1,e2];exact HSZ
      case measure=>(simp[intOf]<;>omega)
   ·have hipos:(0:Int)<(i:Int):=by omega
    have HNE:Hid (A.text≠[]):=fun e=>hiz (HZ.out.2 e)
    have HMA:Hid (mnA A=A.n+1):=by show mnA A=_;unfold mnA;rw[if_neg HNE.out]
    have HTX:Hid ((mnS A (s++[10])).text=A.text++[45,45,45,10]++(s++[10])):=by show (mnS A (s++[10])).text=_;unfold mnS;simp only[if_neg HNE.out]
    go_upto_region 15 with (go_at_call 11;refine(HW.out _).mono ?_;rintro e w1 ⟨rfl,H1⟩;have HS1:Hid (MwS w w1 BK (.slice va i vc) i xs A.ts A.bad.1 A.bad.2):=HS.out.later H1.out)
    go_upto_region 16 with (go_at_call 12;refine(HP.out _ HS1.out.bl).mono ?_;rintro e w2 ⟨qk,qx,qy,qd,ql,qc,rfl,HT2,H2⟩)
    have two:=two_b w2 #[.int .i64 qk,.string qx,.string qy,.slice qd ql qc] #[.int .i64 q1,.int .i64 q2] 35 32;have HS6:Hid (MwS w ((w2.alloc (.cells #[.int .i64 qk,.string qx,.string qy,.slice qd ql qc] 35)).alloc (.cells #[.int .i64 q1,.int .i64 q2] 32)) BK (.slice va i vc) i xs A.ts A.bad.1 A.bad.2):=(HS1.out.later H2.out).later two.1
    have HT6:Hid (TrQ (Out (BK+1) (.slice va i vc)) ((w2.alloc (.cells #[.int .i64 qk,.string qx,.string qy,.slice qd ql qc] 35)).alloc (.cells #[.int .i64 q1,.int .i64 q2] 32)) 129 (.agg #[.int .i64 qk,.string qx,.string qy,.slice qd ql qc]) T):=by
     have hbl:=HS1.out.bx.lt;have hv:∀ k,(Value.slice va i vc).ownBlock=some k->k<w1.heap.size:=fun k hk=>(HS1.out.own.lt k hk).2
     exact TrQ.wide (fun j hj _=>⟨by omega,fun k hk=>by have:=hv k hk;omega⟩) (HT2.out.later two.1)
    have hK9:BK<w2.heap.size:=(HS1.out.later H2.out).bx.lt;generalize (w2.alloc (.cells #[.int .i64 qk,.string qx,.string qy,.slice qd ql qc] 35)).alloc (.cells #[.int .i64 q1,.int .i64 q2] 32)=W6 at HS6 HT6 two |-;have N9:Hid (Bx W6 w2.heap.size #[.int .i64 qk,.string qx,.string qy,.slice qd ql qc] 35/\Bx W6 (w2.heap.size+1) #[.int .i64 q1,.int .i64 q2] 32):=⟨two.2.1,two.2.2⟩;obtain⟨K10,hK10⟩:∃ K,K=w2.heap.size+1:=⟨_,rfl⟩;obtain⟨K9,hK9'⟩:∃ K,K=w2.heap.size:=⟨_,rfl⟩;rw[<-hK10,<-hK9']at N9 |-;have m9:BK≠K9:=by omega
    have m10:BK≠K10:=by omega
    clear two HT2 H1 H2 HS1 hK10 hK9' hK9 HS HP HW;obtain⟨t0,t1,t2,t3⟩:=N9.out.1.c4;obtain⟨f0,f1⟩:=N9.out.2.c2;obtain⟨c0,c1⟩:=HS6.out.bx.c2;have z0:=HS6.out.bx.fz 0;have z1:=HS6.out.bx.fz 1;by_cases hq:q1=0
    ·have HF0:Hid ((paD (rwW (s++[10]))).2=(0,0)):=fault_form.1 (by rw[HQ.out];exact hq);have hq2:q2=0:=by have h:=HF0.out;rw[HQ.out]at h;exact(Prod.mk.inj h).2
     subst hq;subst hq2;have he1:=neq_flt 0 0 0 0;go_wp2_with (first | (at_builtin;refine mw_app rfl _ _ rfl rfl rfl (by omega) HT6.out HS6.out ?_;intro v9 w9 HS9) | (go_at_call 13;refine(HR.out _).mono ?_;rintro e wz ⟨az,capz,rfl,hrz,hbz⟩;have HSZ:=(HS9.out.later hbz.out).later (below_alloc _ (.cells #[.int .i64 (rwF (s++[10])).1,.int .i64 (rwF (s++[10])).2] 32))));go_roundw
     case rel =>
      refine⟨i+1,mnS A (s++[10]),xs++[.int .i64 qk,.string qx,.string qy,.slice qd ql qc],by omega,by go_num,?_,?_,HMN.out,?_⟩
      ·show Value.string _=Value.string (mk (mnS A (s++[10])).text);rw[HTX.out,HM1.out,HM2.out,HM3.out]
      ·show Value.int .i64 _=Value.int .i64 ((mnA A+(rwW (s++[10])).length:Nat):Int);rw[HMA.out];go_num
      ·have e1:(mnS A (s++[10])).ts=A.ts++[T]:=HTS.out;have e2:(mnS A (s++[10])).bad=_:=mnS_same (.inl HF0.out);rw[e1,e2];exact HSZ
     case measure=>(simp[intOf]<;>omega)
    ·have HF1:Hid ((paD (rwW (s++[10]))).2=(q1,q2)):=by rw[HQ.out];exact rfl
     have hqb:(q1==0)=false:=by simpa using hq
     have he1:=neq_flt q1 0 q2 0;rw[hqb,Bool.false_and]at he1;by_cases hbd:A.bad=(0,0)
     ·have HBD:Hid (A.bad=(0,0)):=hbd;rw[hbd]at c0 c1 HS6;have he2:=eql_flt 0 0 0 0;clear hbd hq;by_cases hqp:0<q2
      ·go_upto_region 20 with fail
       have HS7:Hid (MwS w (((W6.setCell ⟨BK,0,none⟩ (.int .i64 q1)).setCell ⟨BK,1,none⟩ (.int .i64 q2)).setCell ⟨BK,1,none⟩ (.int .i64 (q2+((A.n:Int)+1)))) BK (.slice va i vc) i xs A.ts q1 (q2+((A.n:Int)+1))):=(HS6.out.bad q1 q2).bad1 (q2+((A.n:Int)+1));have hkk:∀ j,j≠BK->((((W6.setCell ⟨BK,0,none⟩ (.int .i64 q1)).setCell ⟨BK,1,none⟩ (.int .i64 q2)).setCell ⟨BK,1,none⟩ (.int .i64 (q2+((A.n:Int)+1))))).heap[j]?=W6.heap[j]?:=fun j hj=>by repeat rw[Below.heap_setCell _ _ _ _ (fun e=>hj (by simpa using e))]
       have hsz:W6.heap.size<=((((W6.setCell ⟨BK,0,none⟩ (.int .i64 q1)).setCell ⟨BK,1,none⟩ (.int .i64 q2)).setCell ⟨BK,1,none⟩ (.int .i64 (q2+((A.n:Int)+1))))).heap.size:=by simp[World.setCell]
       have N7:Hid (Bx (((W6.setCell ⟨BK,0,none⟩ (.int .i64 q1)).setCell ⟨BK,1,none⟩ (.int .i64 q2)).setCell ⟨BK,1,none⟩ (.int .i64 (q2+((A.n:Int)+1)))) K9 #[.int .i64 qk,.string qx,.string qy,.slice qd ql qc] 35):=(hkk K9 (fun e=>m9 e.symm)).trans N9.out.1;have HT7:Hid (TrQ (Out (BK+1) (.slice va i vc)) (((W6.setCell ⟨BK,0,none⟩ (.int .i64 q1)).setCell ⟨BK,1,none⟩ (.int .i64 q2)).setCell ⟨BK,1,none⟩ (.int .i64 (q2+((A.n:Int)+1)))) 129 (.agg #[.int .i64 qk,.string qx,.string qy,.slice qd ql qc]) T):=TrQ.keep hsz (fun j hj _=>hkk j (by have:=hj.1;omega)) HT6.out;generalize (((W6.setCell ⟨BK,0,none⟩ (.int .i64 q1)).setCell ⟨BK,1,none⟩ (.int .i64 q2)).setCell ⟨BK,1,none⟩ (.int .i64 (q2+((A.n:Int)+1))))=W7 at HS7 N7 HT7 |-;clear HS6 HT6 N9 hkk hsz c0 c1 t0 t1 t2 t3 f0 f1 z0 z1;obtain⟨t0,t1,t2,t3⟩:=N7.out.c4;go_wp2_with (first | (at_builtin;refine mw_app rfl _ _ rfl rfl rfl (by omega) HT7.out HS7.out ?_;intro v9 w9 HS9) | (go_at_call 13;refine(HR.out _).mono ?_;rintro e wz ⟨az,capz,rfl,hrz,hbz⟩;have HSZ:=(HS9.out.later hbz.out).later (below_alloc _ (.cells #[.int .i64 (rwF (s++[10])).1,.int .i64 (rwF (s++[10])).2] 32))));go_roundw
       case rel =>
        refine⟨i+1,mnS A (s++[10]),xs++[.int .i64 qk,.string qx,.string qy,.slice qd ql qc],by omega,by go_num,?_,?_,HMN.out,?_⟩
        ·show Value.string _=Value.string (mk (mnS A (s++[10])).text);rw[HTX.out,HM1.out,HM2.out,HM3.out]
        ·show Value.int .i64 _=Value.int .i64 ((mnA A+(rwW (s++[10])).length:Nat):Int);rw[HMA.out];go_num
        ·have e1:(mnS A (s++[10])).ts=A.ts++[T]:=HTS.out;have e2:(mnS A (s++[10])).bad=_:=show _=(q1,q2+((A.n:Int)+1))from by rw[mnS_new HBD.out,HQ.out];show (q1,gS (mnA A) q2)=_;unfold gS;rw[if_pos hqp,HMA.out];rfl
         rw[e1,e2];exact HSZ
       case measure=>(simp[intOf]<;>omega)
      ·go_upto_region 20 with fail
       have HS7:Hid (MwS w ((W6.setCell ⟨BK,0,none⟩ (.int .i64 q1)).setCell ⟨BK,1,none⟩ (.int .i64 q2)) BK (.slice va i vc) i xs A.ts q1 q2):=HS6.out.bad q1 q2;have hkk:∀ j,j≠BK->(((W6.setCell ⟨BK,0,none⟩ (.int .i64 q1)).setCell ⟨BK,1,none⟩ (.int .i64 q2))).heap[j]?=W6.heap[j]?:=fun j hj=>by repeat rw[Below.heap_setCell _ _ _ _ (fun e=>hj (by simpa using e))]
       have hsz:W6.heap.size<=(((W6.setCell ⟨BK,0,none⟩ (.int .i64 q1)).setCell ⟨BK,1,none⟩ (.int .i64 q2))).heap.size:=by simp[World.setCell]
       have N7:Hid (Bx ((W6.setCell ⟨BK,0,none⟩ (.int .i64 q1)).setCell ⟨BK,1,none⟩ (.int .i64 q2)) K9 #[.int .i64 qk,.string qx,.string qy,.slice qd ql qc] 35):=(hkk K9 (fun e=>m9 e.symm)).trans N9.out.1;have HT7:Hid (TrQ (Out (BK+1) (.slice va i vc)) ((W6.setCell ⟨BK,0,none⟩ (.int .i64 q1)).setCell ⟨BK,1,none⟩ (.int .i64 q2)) 129 (.agg #[.int .i64 qk,.string qx,.string qy,.slice qd ql qc]) T):=TrQ.keep hsz (fun j hj _=>hkk j (by have:=hj.1;omega)) HT6.out;generalize ((W6.setCell ⟨BK,0,none⟩ (.int .i64 q1)).setCell ⟨BK,1,none⟩ (.int .i64 q2))=W7 at HS7 N7 HT7 |-;clear HS6 HT6 N9 hkk hsz c0 c1 t0 t1 t2 t3 f0 f1 z0 z1;obtain⟨t0,t1,t2,t3⟩:=N7.out.c4;go_wp2_with (first | (at_builtin;refine mw_app rfl _ _ rfl rfl rfl (by omega) HT7.out HS7.out ?_;intro v9 w9 HS9) | (go_at_call 13;refine(HR.out _).mono ?_;rintro e wz ⟨az,capz,rfl,hrz,hbz⟩;have HSZ:=(HS9.out.later hbz.out).later (below_alloc _ (.cells #[.int .i64 (rwF (s++[10])).1,.int .i64 (rwF (s++[10])).2] 32))));go_roundw
       case rel =>
        refine⟨i+1,mnS A (s++[10]),xs++[.int .i64 qk,.string qx,.string qy,.slice qd ql qc],by omega,by go_num,?_,?_,HMN.out,?_⟩
        ·show Value.string _=Value.string (mk (mnS A (s++[10])).text);rw[HTX.out,HM1.out,HM2.out,HM3.out]
        ·show Value.int .i64 _=Value.int .i64 ((mnA A+(rwW (s++[10])).length:Nat):Int);rw[HMA.out];go_num
        ·have e1:(mnS A (s++[10])).ts=A.ts++[T]:=HTS.out;have e2:(mnS A (s++[10])).bad=_:=show _=(q1,q2)from by rw[mnS_new HBD.out,HQ.out];show (q1,gS (mnA A) q2)=_;unfold gS;rw[if_neg (by omega)]
         rw[e1,e2];exact HSZ
       case measure=>(simp[intOf]<;>omega)
     ·have hb1:A.bad.1≠0:=by rcases HMX.out.I.bd with h | h;exact absurd h hbd;exact h
      have HBD:Hid (A.bad≠(0,0)):=hbd;have hbb:(A.bad.1==0)=false:=by simpa using hb1
      have he2:=eql_flt A.bad.1 0 A.bad.2 0;rw[hbb,Bool.false_and]at he2;clear hbd hq hb1;go_wp2_with (first | (at_builtin;refine mw_app rfl _ _ rfl rfl rfl (by omega) HT6.out HS6.out ?_;intro v9 w9 HS9) | (go_at_call 13;refine(HR.out _).mono ?_;rintro e wz ⟨az,capz,rfl,hrz,hbz⟩;have HSZ:=(HS9.out.later hbz.out).later (below_alloc _ (.cells #[.int .i64 (rwF (s++[10])).1,.int .i64 (rwF (s++[10])).2] 32))));go_roundw
      case rel =>
       refine⟨i+1,mnS A (s++[10]),xs++[.int .i64 qk,.string qx,.string qy,.slice qd ql qc],by omega,by go_num,?_,?_,HMN.out,?_⟩
       ·show Value.string _=Value.string (mk (mnS A (s++[10])).text);rw[HTX.out,HM1.out,HM2.out,HM3.out]
       ·show Value.int .i64 _=Value.int .i64 ((mnA A+(rwW (s++[10])).length:Nat):Int);rw[HMA.out];go_num
       ·have e1:(mnS A (s++[10])).ts=A.ts++[T]:=HTS.out;have e2:(mnS A (s++[10])).bad=_:=mnS_same (.inr HBD.out);rw[e1,e2];exact HSZ
      case measure=>(simp[intOf]<;>omega)
  ·have e:i=len:=by omega
   subst e;have HL:Hid (Calls Tryz.prog 14 #[.string (mk A.text)] wr (LdRes (ldM A.text) wr)):=load_any A.text (by omega) wr (HTb.out.later HS.out.bl) (mnx_good HMX.out);have HMA:=HMX.out.I;have HALL:Hid (ldM A.text=if A.bad=(0,0)then (A.ts,0,0)else ([],A.bad)):=mn_all HMX.out.I (by have:=HMX.out.dl;omega);have HTL:Hid (A.ts.length=i):=HMX.out.tl;rw[HALL.out]at HL;obtain⟨c0,c1⟩:=HS.out.bx.c2;by_cases hbd:A.bad=(0,0)
   ·rw[if_pos hbd]at HL;unfold LdRes at HL;dsimp only at HL;rw[HTL.out]at HL;have he1:=neq_flt 0 0 0 0;have he2:=eql_flt 0 0 0 0;have HS0':Hid (MwS w wr BK (.slice va i vc) i xs A.ts 0 0):=by have h:=HS.out;rw[hbd]at h;exact h
    clear hbd HMA HALL c0 c1 HS;go_upto_region 25 with (go_at_call 14;refine HL.out.mono ?_;rintro e w1 ⟨a1,cap1,rfl,hk1,hb1⟩)
    have HS5:Hid (MwS w (w1.alloc (.cells #[.int .i64 0,.int .i64 0] 32)) BK (.slice va i vc) i xs A.ts 0 0):=(HS0'.out.later hb1.out).later (below_alloc _ _);have N5:=Bx.new w1 #[.int .i64 0,.int .i64 0] 32;have HK5:Hid (KAt (w1.alloc (.cells #[.int .i64 0,.int .i64 0] 32)) 129 a1 i A.ts):=(hk1.out.1.later (below_alloc _ _)).kat;have hcl1:i<=cap1:=hk1.out.2.1;have hcm1:cap1<=9223372036854775807:=hk1.out.2.2;generalize w1.alloc (.cells #[.int .i64 0,.int .i64 0] 32)=W5 at HS5 N5 HK5 |-;generalize w1.heap.size=K5 at N5 |-;clear HS0' hk1 hb1 HL;obtain⟨c0,c1⟩:=HS5.out.bx.c2;obtain⟨f0,f1⟩:=N5.c2;obtain⟨k1,k2,k3⟩:=kat_own HS5.out.own HS5.out.kd (fun j a=>a.1) HTL.out.symm
    have HSm:Hid (∀ k,Calls Tryz.prog 15 #[.slice a1 i cap1,.slice va i vc] (W5.drewN k) fun e W'=>e=.returned (.bool true)/\Hid (Below w.heap.size w W')):=fun k=>by
     have hb:=Blk.below_drewN (Below.refl W5.heap.size W5) k;have hb2:=Blk.below_drewN HS5.out.bl k;exact(rsameL_any a1 va i cap1 vc A.ts _ (KAt.laterB HK5.out hb) (KAt.laterB k1.kat hb) hcl1 k2 hcm1 k3).mono (fun e W' q=>⟨q.1,hb2.trans (q.2.mono hb2.size)⟩)
    clear k1 k2 k3 HK5 N5;go_wp2_with (first | (go_at_call 15;refine(HSm.out 0).mono ?_;rintro e w7 ⟨rfl,B7⟩) | (go_at_call 7;refine(HA.out _ B7.out).mono ?_;rintro e w8 ⟨rfl,B8⟩));go_ret;exact⟨rfl,B8.out⟩
   ·rw[if_neg hbd]at HL;unfold LdRes at HL;dsimp only at HL;dsimp only[List.length_nil]at HL;have hb1:A.bad.1≠0:=by rcases HMX.out.I.bd with h | h;exact absurd h hbd;exact h
    have hbb:(A.bad.1==0)=false:=by simpa using hb1
    have he1:=neq_flt A.bad.1 0 A.bad.2 0;rw[hbb,Bool.false_and]at he1;have he2:=eql_flt A.bad.1 A.bad.1 A.bad.2 A.bad.2;simp only[beq_self_eq_true,Bool.and_self]at he2;clear hbd hb1 HMA HALL c0 c1;go_upto_region 25 with (go_at_call 14;refine HL.out.mono ?_;rintro e w1 ⟨a1,cap1,rfl,hk1,hb1⟩)
    have HS5:Hid (MwS w (w1.alloc (.cells #[.int .i64 A.bad.1,.int .i64 A.bad.2] 32)) BK (.slice va i vc) i xs A.ts A.bad.1 A.bad.2):=(HS.out.later hb1.out).later (below_alloc _ _);have N5:=Bx.new w1 #[.int .i64 A.bad.1,.int .i64 A.bad.2] 32;generalize w1.alloc (.cells #[.int .i64 A.bad.1,.int .i64 A.bad.2] 32)=W5 at HS5 N5 |-;generalize w1.heap.size=K5 at N5 |-;clear HS hk1 hb1 HL;obtain⟨c0,c1⟩:=HS5.out.bx.c2;obtain⟨f0,f1⟩:=N5.c2;go_wp2_with (go_at_call 7;refine(HA.out _ HS5.out.bl).mono ?_;rintro e w8 ⟨rfl,B8⟩);go_ret;exact⟨rfl,B8.out⟩
end Lod
end Go.Proofs.YtalijhclfppohaaGreatDoor
