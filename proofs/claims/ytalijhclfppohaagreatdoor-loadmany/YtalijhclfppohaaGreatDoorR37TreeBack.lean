/- . -/
import Derived.RangeFuncNested
import Derived.RangeFuncBound
import Derived.RangeFuncBox
import Derived.RangeFuncCalls
import Derived.RangeFuncLeaves
import Derived.Shelf.Abstract
import Derived.Shelf.RegionOpen
import Derived.WalkKit
import Derived.OwnWalkIn
import Derived.TacticsInMore
import Derived.LoopNIn
import Derived.LoopIn
import Derived.Test.YtalijhclfppohaaGreatDoorR36TreeHds
set_option linter.unusedSimpArgs false
set_option linter.unusedVariables false
set_option maxRecDepth 100000
namespace Go.Proofs.YtalijhclfppohaaGreatDoor
namespace Tre
open Utf Rws Pln Flw
open Go.RowKit Go.Shelf
open Blk (Rw RwAt z3)
attribute [local go_sem] Oper.semAt_some
def hd0:Hd:=(z3,⟨[],0⟩)
def rv (hs:List Hd):Nat->List (Nat × Hd)
 | 0=>[]
 | n+1=>(n,hs.getD n hd0)::rv hs n
theorem rv_len (hs:List Hd):∀ n,(rv hs n).length=n
 | 0=>rfl
 | n+1=>by rw[rv,List.length_cons,rv_len hs n]
theorem rv_map (hs:List Hd):∀ n,n<=hs.length->(rv hs n).map (·.2)=(hs.take n).reverse
 | 0,_=>rfl
 | n+1,h=>by
  rw[rv,List.map_cons,rv_map hs n (by omega),List.take_add_one,List.reverse_append,List.getD_eq_getElem?_getD,List.getElem?_eq_getElem (by omega)];rfl
structure HdAt (w:World) (Bs:Nat) (a:Option Addr) (len cap:Nat) (hs:List Hd):Prop where
 bx:w.cell? ⟨Bs,0,none⟩=some (.slice a len cap)
 hl:len=hs.length
 ad:∀ i,i<len->∃ g,a=some ⟨g,0,none⟩/\w.cell? ⟨g,i*5,none⟩=some (.int .i64 (hs.getD i hd0).1.1)/\w.cell? ⟨g,i*5+1,none⟩=some (.string (mk (hs.getD i hd0).1.2.1))/\w.cell? ⟨g,i*5+2,none⟩=some (.int .i64 (hs.getD i hd0).1.2.2)/\w.cell? ⟨g,i*5+3,none⟩=some (.string (mk (hs.getD i hd0).2.anc))/\w.cell? ⟨g,i*5+4,none⟩=some (.int .i64 (hs.getD i hd0).2.tag)
def KpH (Bs:Nat) (a:Option Addr) (W W':World):Prop:=W'.heap[Bs]?=W.heap[Bs]?/\∀ g,a=some ⟨g,0,none⟩->W'.heap[g]?=W.heap[g]?
theorem HdAt.kp {W W':World} {Bs:Nat} {a:Option Addr} {len cap:Nat} {hs:List Hd} (h:HdAt W Bs a len cap hs) (hk:KpH Bs a W W'):HdAt W' Bs a len cap hs:=by
 refine⟨(World.cell?_of_block (w:=W) hk.1).trans h.bx,h.hl,fun i hi=> ?_⟩;obtain⟨g,e,c0,c1,c2,c3,c4⟩:=h.ad i hi;have q:∀ n,W'.cell? ⟨g,n,none⟩=W.cell? ⟨g,n,none⟩:=fun n=>World.cell?_of_block (w:=W) (hk.2 g e)
 exact⟨g,e,(q _).trans c0,(q _).trans c1,(q _).trans c2,(q _).trans c3,(q _).trans c4⟩
set_option maxHeartbeats 2000000 in
theorem back1_in (n:Nat) (hn:1<=n) (l Bs:Nat) (a:Option Addr) (len cap:Nat) (hs:List Hd) (hlen:len<=9223372036854775807) (J Jx:List (Nat × Hd)->World->Prop) (W:World)
  (hY:∀ pre x W1,J pre W1->pre.length<len->YieldAt Fence.wide (n-1) Tryz.prog l #[.int .i64 (x.1:Int),hV x.2] W1 fun e W' =>
   (e=.returned (.bool true)/\J (pre++[x]) W'/\KpH Bs a W1 W')\/(e=.returned (.bool false)/\Jx (pre++[x]) W'))
  (hH:HdAt W Bs a len cap hs) (h0:J [] W) :
  CallsIn Fence.wide n Tryz.prog 72 #[.func (.yield l) #[] #[],.pointer (some ⟨Bs,0,none⟩)] W fun e W'=>(∃ v,e=.returned v) /\
   ((∃ ys,ys=rv hs len/\J ys W')\/(∃ pre,pre <+: rv hs len/\Jx pre W')):=by
 have hbx:=hH.bx;refine callsIn_of_wp Tryz.func72 rfl trivial ?_ rfl;simp only[Tryz.ntmps72,List.size_toArray,List.length_cons,List.length_nil,Nat.reduceAdd,Nat.reduceSub,Array.replicate_succ,Array.replicate_zero,List.push_toArray,List.append_toArray,List.nil_append,List.cons_append];have HH:Hid (HdAt W Bs a len cap hs):=hH;clear hH
 gi_wp2
 gi_loopw [3] (fun u wr=>∃ (k:Nat) (pre:List (Nat × Hd)),u=.int .i64 ((k:Int)-1)/\k<=len/\Hid (pre++rv hs k=rv hs len)/\Hid (HdAt wr Bs a len cap hs)/\J pre wr) (fun u _=>(intOf u+1).toNat)
 case atStart=>exact⟨len,[],rfl,Nat.le_refl _,rfl,HH,h0⟩
 case round =>
  obtain⟨k,pre,rfl,hk,HX,HS,hJ⟩:=hrel;have hbr:=HS.out.bx
  cases k with
  | zero =>
   gi_wp2
   go_end0;exact⟨⟨_,rfl⟩,.inl ⟨pre,by have:=HX.out;rw[rv,List.append_nil]at this;exact this,hJ⟩⟩
  | succ j =>
   rw[show (((j+1:Nat):Int)-1)=(j:Int) by omega];obtain⟨g,rfl,c0,c1,c2,c3,c4⟩:=HS.out.ad j (by omega)
   have hpl:pre.length<len:=by
    have:=congrArg List.length HX.out;rw[List.length_append,rv_len,rv_len]at this;omega
   obtain⟨fn,tmps,assign,body,hy,hR⟩:=hY pre (j,hs.getD j hd0) wr hJ hpl;dsimp only at hy
   have HX2:Hid ((pre++[(j,hs.getD j hd0)])++rv hs j=rv hs len):=by
    have:=HX.out;rw[rv]at this;show _=_;rw[List.append_assoc];exact this
   generalize hs.getD j hd0=hh at *;clear HX
   gi_wp2
   refine hR.mono ?_;rintro e W3 (⟨rfl,hJ3,hK3⟩ | ⟨rfl,hJx3⟩)
   ·have HS3:Hid (HdAt W3 Bs (some ⟨g,0,none⟩) len cap hs):=HS.out.kp hK3
    gi_wp2
    go_roundw
    case rel=>exact⟨j,pre++[(j,hh)],by go_num,by omega,HX2,HS3,hJ3⟩
    case measure=>simp[intOf]
   ·gi_wp2
    refine bodyPost_ret (results_none rfl _ _ _) rfl ?_;exact⟨⟨_,rfl⟩,.inr ⟨pre++[(j,hh)],⟨rv hs j,HX2.out⟩,hJx3⟩⟩
theorem back_in (a:Option Addr) (len cap:Nat) (n:Nat) (w:World) :
  CallsIn Fence.wide n Tryz.prog 43 #[.slice a len cap] w fun e w'=>e=.returned (.func (.func 72) #[] #[.pointer (some ⟨w.heap.size,0,none⟩)])/\w'=w.alloc (.cells #[.slice a len cap] 74):=by
 refine callsIn_of_wp Tryz.func43 rfl trivial ?_ rfl;simp only[Tryz.ntmps43,List.size_toArray,List.length_cons,List.length_nil,Nat.reduceAdd,Nat.reduceSub,Array.replicate_succ,Array.replicate_zero,List.push_toArray,List.append_toArray,List.nil_append,List.cons_append]
 gi_wp2
 go_ret;exact⟨rfl,rfl⟩
theorem HdAt.later {W W':World} {Bs:Nat} {a:Option Addr} {len cap:Nat} {hs:List Hd} (h:HdAt W Bs a len cap hs) (hb:Below W.heap.size W W') (hB:Bs<W.heap.size) (hg:∀ g,a=some ⟨g,0,none⟩->g<W.heap.size):HdAt W' Bs a len cap hs :=
 h.kp ⟨hb.block Bs hB,fun g e=>hb.block g (hg g e)⟩
theorem back_stops (n:Nat) (hn:1<=n) (Bs:Nat) (a:Option Addr) (len cap:Nat) (hs:List Hd) (hlen:len<=9223372036854775807) (w:World) (hB:Bs<w.heap.size) (hg:∀ g,a=some ⟨g,0,none⟩->g<w.heap.size) (hH:HdAt w Bs a len cap hs) :
  SeqStopsK Fence.wide n Tryz.prog 72 #[.pointer (some ⟨Bs,0,none⟩)] (fun x:Nat × Hd=>#[Value.int .i64 (x.1:Int),hV x.2]) (KpH Bs a) (fun ys=>ys=rv hs len) (fun pre=>pre <+: rv hs len) len w:=fun l J Jx W hW hJ _ hY h0 =>
 back1_in n hn l Bs a len cap hs hlen J Jx W hY (hH.later hW hB hg) h0
end Tre
end Go.Proofs.YtalijhclfppohaaGreatDoor
