/- . -/
import Derived.RangeFuncNested
import Derived.RangeFuncBound
import Derived.RangeFuncBox
import Derived.RangeFuncCalls
import Derived.RangeFuncLeaves
import Derived.Shelf.Abstract
import Derived.Shelf.RegionOpen
import Derived.WalkKit
import Derived.OwnWalkIn
import Derived.TacticsInMore
import Derived.LoopNIn
import Derived.LoopIn
import Derived.Maps.AppendAt
import Derived.Test.YtalijhclfppohaaGreatDoorR20RowsLeaf
set_option linter.unusedSimpArgs false
set_option linter.unusedVariables false
set_option maxRecDepth 100000
namespace Go.Proofs.YtalijhclfppohaaGreatDoor
namespace Rws
open Utf
open Go.RowKit Go.Shelf
attribute [local go_sem] Oper.semAt_some
abbrev Lb:= { l:List UInt8 // l.length<=140737488355328 }
def cl (l:List UInt8):Lb:=⟨l.take 140737488355328,by rw[List.length_take];omega⟩
theorem cl_val {l:List UInt8} (h:l.length<=140737488355328):(cl l).1=l:=List.take_of_length_le h
def num:Nat->List (List UInt8)->List (Nat × Lb)
 | _,[]=>[]
 | k,l::r=>(k,cl l)::num (k+1) r
theorem num_len (k:Nat) (L:List (List UInt8)):(num k L).length=L.length:=by
 induction L generalizing k with
 | nil=>rfl
 | cons l r ih=>rw[num,List.length_cons,List.length_cons,ih]
theorem num_app (k:Nat) (A B:List (List UInt8)):num k (A++B)=num k A++num (k+A.length) B:=by
 induction A generalizing k with
 | nil=>rfl
 | cons l r ih=>rw[List.cons_append,num,num,ih,List.cons_append,List.length_cons];congr 3;omega
theorem bef_no {l:List UInt8} (h:has 10 l=false):bef l=l:=by
 induction l with
 | nil=>rfl
 | cons b r ih =>
  rw[has_cons]at h;have h1:(b==10)=false:=by cases hb:(b==10)<;>simp_all
  have h2:has 10 r=false:=by cases hb:has 10 r<;>simp_all
  have h3:not10 b=true:=by unfold not10;simpa using h1
  unfold bef at *;rw[List.takeWhile_cons,h3,if_pos rfl,ih h2]
theorem aft_no {l:List UInt8} (h:has 10 l=false):aft l=[]:=by
 unfold aft;rw[bef_no h];exact List.drop_of_length_le (by omega)
theorem cutB_aft (l:List UInt8):cutB l=aft l:=by
 unfold cutB;split
 ·rfl
 ·rename_i h;rw[aft_no (by simpa using h)]
theorem grown_of_below {w w':World} (h:Below w.heap.size w w'):w.grownBy w' none:=⟨h.os,h.tape,h.output,h.size,fun k hk _=>h.block k hk⟩
set_option maxHeartbeats 2000000 in
theorem numbered1_in (n:Nat) (hn:1<=n) (l Bs:Nat) (s:List UInt8) (hs:s.length<=140737488355328) (J Jx:List (Nat × Lb)->World->Prop) (W:World) (hJ:AbidesFrom W.heap.size J)
  (hY:∀ pre x W1,J pre W1->pre.length<(lns s).length->YieldAt Fence.wide (n-1) Tryz.prog l #[.int .i64 (x.1:Int),.string (mk x.2.1)] W1 fun e W' =>
   (e=.returned (.bool true)/\J (pre++[x]) W'/\True)\/(e=.returned (.bool false)/\Jx (pre++[x]) W'))
  (hBs:W.cell? ⟨Bs,0,none⟩=some (.string (mk s))) (h0:J [] W) :
  CallsIn Fence.wide n Tryz.prog 32 #[.func (.yield l) #[] #[],.pointer (some ⟨Bs,0,none⟩)] W fun e W'=>(∃ v,e=.returned v) /\
   ((∃ ys,ys=num 1 (lns s)/\J ys W')\/(∃ pre,pre <+: num 1 (lns s)/\Jx pre W')):=by
 refine callsIn_of_wp Tryz.func32 rfl trivial ?_ rfl;simp only[Tryz.ntmps32,List.size_toArray,List.length_cons,List.length_nil,Nat.reduceAdd,Nat.reduceSub,Array.replicate_succ,Array.replicate_zero,List.push_toArray,List.append_toArray,List.nil_append,List.cons_append]
 gi_wp2
 gi_loopw [3,4] (fun u a wr=>∃ (pre:List (List UInt8)) (m:List UInt8),u=.string (mk m)/\a=.int .i64 ((pre.length+1:Nat):Int)/\lns s=pre++lns m/\m.length<=s.length/\J (num 1 pre) wr) (fun u _ _=>strLen u)
 case atStart=>exact⟨[],s,rfl,rfl,rfl,Nat.le_refl _,h0⟩
 case round =>
  obtain⟨pre,m,rfl,rfl,hx,hm,hJs⟩:=hrel;have HX:Hid (lns s=pre++lns m):=hx;clear hx;by_cases hm0:m=[]
  ·subst hm0;have hz:mk []=ByteArray.empty:=rfl
   gi_wp2
   go_end0;exact⟨⟨_,rfl⟩,.inl ⟨_,by rw[HX.out];simp[lns_nil],hJs⟩⟩
  ·have hne:((mk m).toList==[])=false:=by rw[ByteArray.toList_eq,mk_data,beq_eq_false_iff_ne];exact hm0
   have HN:Hid (lns m=line m::lns (aft m)):=lns_next m hm0;have HL:Hid ((cl (line m)).1=line m):=cl_val (Nat.le_trans (line_len m) (by omega));have hAl:=aft_len m hm0;have hlen:(num 1 pre).length<(lns s).length:=by rw[num_len,HX.out,HN.out];simp
   have HY:=hY (num 1 pre) (pre.length+1,cl (line m));dsimp only at HY;rw[HL.out]at HY
   have HP:Hid (num 1 pre++[(pre.length+1,cl (line m))]=num 1 (pre++[line m])):=by
    rw[num_app,Nat.add_comm 1 pre.length];exact rfl
   rw[HP.out]at HY
   push_cast at HY
   have hpl:pre.length<=140737488355328:=by
    have h1:=lns_len _ s (Nat.le_refl _);rw[num_len]at hlen;omega
   cases h10:has 10 m
   ·have HLn:Hid (line m=m):=by unfold line;rw[h10];exact rfl
    rw[HLn.out]at HY;have HCA:Hid (cutA m=m):=by unfold cutA;rw[h10];exact rfl
    gi_wp2_with (first | (refine⟨trivial,?_⟩;gi_at_call 33;refine(callsIn_wide.2 (scut_any m _ (by omega))).mono ?_;rintro e W1 ⟨rfl,hb⟩;have hJ1:=hJ _ _ _ none hJs (grown_of_below hb) (fun r e=>by cases e);obtain⟨fn,tmps,assign,body,hy,hR⟩:=HY W1 hJ1 hlen;rw[h10,HCA.out]))
    refine hR.mono ?_;rintro e W3 (⟨rfl,hJ3,_⟩ | ⟨rfl,hJx3⟩)
    ·gi_wp2
     go_roundw
     case rel=>exact⟨pre++[line m],aft m,by rw[cutB_aft],by rw[List.length_append];go_num,by rw[HX.out,HN.out];simp,by omega,by rw[HLn.out];exact hJ3⟩
     case measure=>simp[strLen,cutB_aft,mk_size];omega
    ·gi_wp2
     refine bodyPost_ret (results_none rfl _ _ _) rfl ?_;refine⟨⟨_,rfl⟩,.inr ⟨_,?_,hJx3⟩⟩;rw[<-HLn.out,HX.out,HN.out];refine⟨num (1+(pre++[line m]).length) (lns (aft m)),?_⟩;rw[<-num_app];simp
   ·have HLn:Hid (line m=chop (cutA m)):=by unfold line cutA;rw[h10];exact rfl
    rw[HLn.out]at HY;have hca:(cutA m).length<=140737488355328:=by unfold cutA;rw[h10];exact Nat.le_trans (bef_len m) (by omega)
    gi_wp2_with (first | (refine⟨trivial,?_⟩;gi_at_call 33;refine(callsIn_wide.2 (scut_any m _ (by omega))).mono ?_;rintro e W1 ⟨rfl,hb⟩;have hJ1:=hJ _ _ _ none hJs (grown_of_below hb) (fun r e=>by cases e);obtain⟨fn,tmps,assign,body,hy,hR⟩:=HY W1 hJ1 hlen;rw[h10]) | (refine⟨trivial,?_⟩;gi_at_call 34;refine(callsIn_wide.2 (trimSuffix_any _ _ hca)).mono ?_;rintro e w' ⟨rfl,rfl⟩))
    refine hR.mono ?_;rintro e W3 (⟨rfl,hJ3,_⟩ | ⟨rfl,hJx3⟩)
    ·gi_wp2
     go_roundw
     case rel=>exact⟨pre++[line m],aft m,by rw[cutB_aft],by rw[List.length_append];go_num,by rw[HX.out,HN.out];simp,by omega,by rw[HLn.out];exact hJ3⟩
     case measure=>simp[strLen,cutB_aft,mk_size];omega
    ·gi_wp2
     refine bodyPost_ret (results_none rfl _ _ _) rfl ?_;refine⟨⟨_,rfl⟩,.inr ⟨_,?_,hJx3⟩⟩;rw[<-HLn.out,HX.out,HN.out];refine⟨num (1+(pre++[line m]).length) (lns (aft m)),?_⟩;rw[<-num_app];simp
theorem numbered_in (s:List UInt8) (n:Nat) (w:World) :
  CallsIn Fence.wide n Tryz.prog 22 #[.string (mk s)] w fun e w'=>e=.returned (.func (.func 32) #[] #[.pointer (some ⟨w.heap.size,0,none⟩)])/\w'=w.alloc (.cells #[.string (mk s)] 9):=by
 refine callsIn_of_wp Tryz.func22 rfl trivial ?_ rfl;simp only[Tryz.ntmps22,List.size_toArray,List.length_cons,List.length_nil,Nat.reduceAdd,Nat.reduceSub,Array.replicate_succ,Array.replicate_zero,List.push_toArray,List.append_toArray,List.nil_append,List.cons_append]
 gi_wp2
 go_ret;exact⟨rfl,rfl⟩
theorem numbered_stops (n:Nat) (hn:1<=n) (Bs:Nat) (s:List UInt8) (hs:s.length<=140737488355328) (w:World) (hB:Bs<w.heap.size) (hc:w.cell? ⟨Bs,0,none⟩=some (.string (mk s))) :
  SeqStopsK Fence.wide n Tryz.prog 32 #[.pointer (some ⟨Bs,0,none⟩)] (fun x:Nat × Lb=>#[Value.int .i64 (x.1:Int),Value.string (mk x.2.1)]) (fun _ _=>True) (fun ys=>ys=num 1 (lns s)) (fun pre=>pre <+: num 1 (lns s)) (lns s).length w:=fun l J Jx W hW hJ _ hY h0 =>
 numbered1_in n hn l Bs s hs J Jx W hJ hY ((hW.cell (p:=⟨Bs,0,none⟩) hB).trans hc) h0
end Rws
end Go.Proofs.YtalijhclfppohaaGreatDoor
