/- . -/
import Derived.Test.YtalijhclfppohaaGreatDoorR21RowsTrimO
import Derived.Test.YtalijhclfppohaaGreatDoorR28BlockLeaf
set_option linter.unusedSimpArgs false
set_option linter.unusedVariables false
set_option maxRecDepth 100000
namespace Go.Proofs.YtalijhclfppohaaGreatDoor
namespace Rws
open Utf
open Go.RowKit
theorem mk_getD (l:List UInt8) (k:Nat) (h:k<(mk l).size):(mk l)[k]'h=l.getD k 0:=by
 rw[mk_get,List.getD_eq_getElem?_getD,List.getElem?_eq_getElem (by rw[mk_size]at h;exact h)];rfl
theorem take_snoc (l:List UInt8) (e:Nat) (h:e<l.length):l.take (e+1)=l.take e++[l.getD e 0]:=by
 rw[List.take_succ_eq_append_getElem h,List.getD_eq_getElem?_getD,List.getElem?_eq_getElem h];rfl
theorem b35' (b:UInt8):((b.toNat:Int)==35)=(b==35):=b35 b
theorem note_any (l:List UInt8) (w:World) (hs:l.length<=140737488355328):Calls Tryz.prog 97 #[.string (mk l)] w fun e w'=>e=.returned (.string (mk (note l)))/\w=w':=by
 have hsz:=mk_size l;go_enter Tryz.func97,Tryz.ntmps97;go_wp2
 go_loop [0,7] (fun u i=>∃ n:Nat,n<=l.length/\u=.string (mk l)/\i=.int .i64 n/\hx true l=n+hx (at0 l n) (l.drop n)) (fun _ i=>l.length-(intOf i).toNat)
 case atStart=>exact⟨0,Nat.zero_le _,rfl,rfl,by simp[at0]⟩
 case round =>
  obtain⟨n,hn,rfl,rfl,ht⟩:=hrel;have HT:Hid (hx true l=n+hx (at0 l n) (l.drop n)):=ht;clear ht;by_cases hlt:n<l.length
  ·have hx0:=hx_at l n hlt;have hg:∀ h,(mk l)[n]'h=l.getD n 0:=fun h=>mk_getD l n h
   have hb:=b35' (l.getD n 0);have hlt':n<(mk l).size:=by rw[mk_size];exact hlt
   cases hq:(l.getD n 0==35 && at0 l n)
   ·-- no note begins here
    rw[hq]at hx0;have HX0:hx (at0 l n) (l.drop n)=hx (at0 l (n+1)) (l.drop (n+1))+1:=by simpa using hx0
    have HX:Hid (hx (at0 l n) (l.drop n)=hx (at0 l (n+1)) (l.drop (n+1))+1):=HX0;clear HX0;clear hx0;cases h35:(l.getD n 0==35)
    ·rw[h35]at hb;clear hq;generalize l.getD n 0=b at hg hb;go_wp2;go_round
     case rel=>exact⟨n+1,by omega,rfl,by go_num,by rw[HT.out,HX.out];omega⟩
     case measure=>simp[intOf];omega
    ·rw[h35]at hb;rw[h35,Bool.true_and]at hq;have hn0:n≠0:=by rintro rfl;simp[at0]at hq
     obtain⟨m,rfl⟩:∃ m,n=m+1:=⟨n-1,by omega⟩;have hsp:sp (l.getD m 0)=false:=by simpa [at0]using hq
     have hlm:m<(mk l).size:=by omega
     have hg2:∀ h,(mk l)[m]'h=l.getD m 0:=fun h=>mk_getD l m h
     clear hq h35;generalize l.getD (m+1) 0=b at hg hb;generalize l.getD m 0=b2 at hg2 hsp;go_wp2_with (first | (go_at_call 115;refine(isSpace_any _ _).mono ?_;rintro e w' ⟨rfl,rfl⟩));go_round
     case rel=>exact⟨m+1+1,by omega,rfl,by go_num,by rw[HT.out,HX.out];omega⟩
     case measure=>simp[intOf];omega
   ·rw[hq]at hx0;have HX0:hx true l=n:=by have:=HT.out;rw[hx0]at this;simpa using this
    have HX:Hid (hx true l=n):=HX0;clear HX0;clear hx0 HT;have h35:(l.getD n 0==35)=true:=by simp only[Bool.and_eq_true]at hq;exact hq.1
    have hat:at0 l n=true:=by simp only[Bool.and_eq_true]at hq;exact hq.2
    rw[h35]at hb;clear hq h35;obtain⟨M,HM⟩:∃ M,Hid (M=l.take n):=⟨_,rfl⟩;have hMl:(mk M).size=M.length:=mk_size M;have hMn:M.length=n:=by rw[HM.out,List.length_take];omega
    have hex:(mk l).extract 0 n=mk M:=by rw[mk_ext,HM.out];simp
    have FIN:note l=trR sp M:=by unfold note;rw[HX.out,HM.out]
    have HF:Hid (note l=trR sp M):=FIN;clear FIN;by_cases hn0:n=0
    ·subst hn0;generalize l.getD 0 0=b at hg hb;clear hat
     have H0:Hid (mk (note l)=ByteArray.empty):=by
      have e:note l=[]:=by rw[HF.out,HM.out];rfl
      rw[e];exact rfl
     clear hex hMl hMn HM HF;go_wp2
     go_loop [4] (fun e=>e=.int .i64 0) (fun _=>0)
     case atStart=>exact rfl
     case round =>
      obtain rfl:=hrel;go_wp2;go_ret;rw[H0.out];exact⟨rfl,rfl⟩
    ·obtain⟨m,rfl⟩:∃ m,n=m+1:=⟨n-1,by omega⟩;have hsp:sp (l.getD m 0)=true:=by simpa [at0]using hat
     have hlm:m<(mk l).size:=by omega
     have hg2:∀ h,(mk l)[m]'h=l.getD m 0:=fun h=>mk_getD l m h
     clear hat;generalize l.getD (m+1) 0=b at hg hb;generalize l.getD m 0=b2 at hg2 hsp;go_wp2_with (first | (go_at_call 115;refine(isSpace_any _ _).mono ?_;rintro e w' ⟨rfl,rfl⟩))
     go_loop [4] (fun e=>∃ n:Nat,n<=M.length/\e=.int .i64 n/\trR sp M=trR sp (M.take n)) (fun e=>(intOf e).toNat)
     case atStart=>exact⟨M.length,Nat.le_refl _,by first | rfl | (congr 1;omega) | (simp;omega),by rw[List.take_length]⟩
     case round =>
      obtain⟨n,hn,rfl,ht⟩:=hrel;have HT:Hid (trR sp M=trR sp (M.take n)):=ht;clear ht
      cases n with
      | zero =>
       go_wp2;go_ret;have e1:ByteArray.empty=mk []:=rfl;have e2:trR sp M=[]:=HT.out;rw[HF.out,e2];exact⟨ret_str e1,rfl⟩
      | succ n =>
       have hlt:n<(mk M).size:=by rw[mk_size];omega
       have hle2:n+1<=140737488355328:=by omega
       have hg:∀ h,(mk M)[n]'h=M.getD n 0:=fun h=>mk_getD M n h
       have hte:=take_snoc M n (by omega);have HG:Hid (M.take (n+1)=M.take n++[M.getD n 0]):=hte;clear hte;generalize M.getD n 0=b at hg HG;cases hb:sp b
       ·have HN:Hid (trR sp (M.take n++[b])=M.take n++[b]):=by rw[trR_snoc,hb];rfl
        go_wp2_with (first | (go_at_call 115;refine(isSpace_any _ _).mono ?_;rintro e w' ⟨rfl,rfl⟩));go_ret;have e1:(mk M).extract 0 (n+1)=mk (M.take (n+1)):=by rw[mk_ext];simp
        have e2:trR sp M=M.take (n+1):=by rw[HT.out,HG.out,HN.out]
        rw[HF.out,e2];exact⟨ret_str e1,rfl⟩
       ·have HN:Hid (trR sp (M.take n++[b])=trR sp (M.take n)):=by rw[trR_snoc,hb];rfl
        go_wp2_with (first | (go_at_call 115;refine(isSpace_any _ _).mono ?_;rintro e w' ⟨rfl,rfl⟩));go_round
        case rel=>exact⟨n,by omega,by go_num,by rw[HT.out,HG.out,HN.out]⟩
        case measure=>simp[intOf]
  ·obtain rfl:n=l.length:=by omega
   obtain⟨M,HM⟩:∃ M,Hid (M=l):=⟨_,rfl⟩
   have HF:Hid (note l=trR sp M):=by
    have h1:=HT.out;rw[List.drop_of_length_le (Nat.le_refl _)]at h1;have h2:hx true l=l.length:=h1;rw[HM.out];unfold note;rw[h2,List.take_length];exact rfl
   have hl:=HM.out;subst hl;go_wp2
   go_loop [4] (fun e=>∃ n:Nat,n<=M.length/\e=.int .i64 n/\trR sp M=trR sp (M.take n)) (fun e=>(intOf e).toNat)
   case atStart=>exact⟨M.length,Nat.le_refl _,by first | rfl | (congr 1;omega) | (simp;omega),by rw[List.take_length]⟩
   case round =>
    obtain⟨n,hn,rfl,ht⟩:=hrel;have HT:Hid (trR sp M=trR sp (M.take n)):=ht;clear ht
    cases n with
    | zero =>
     go_wp2;go_ret;have e1:ByteArray.empty=mk []:=rfl;have e2:trR sp M=[]:=HT.out;rw[HF.out,e2];exact⟨ret_str e1,rfl⟩
    | succ n =>
     have hlt:n<(mk M).size:=by rw[mk_size];omega
     have hle2:n+1<=140737488355328:=by omega
     have hg:∀ h,(mk M)[n]'h=M.getD n 0:=fun h=>mk_getD M n h
     have hte:=take_snoc M n (by omega);have HG:Hid (M.take (n+1)=M.take n++[M.getD n 0]):=hte;clear hte;generalize M.getD n 0=b at hg HG;cases hb:sp b
     ·have HN:Hid (trR sp (M.take n++[b])=M.take n++[b]):=by rw[trR_snoc,hb];rfl
      go_wp2_with (first | (go_at_call 115;refine(isSpace_any _ _).mono ?_;rintro e w' ⟨rfl,rfl⟩));go_ret;have e1:(mk M).extract 0 (n+1)=mk (M.take (n+1)):=by rw[mk_ext];simp
      have e2:trR sp M=M.take (n+1):=by rw[HT.out,HG.out,HN.out]
      rw[HF.out,e2];exact⟨ret_str e1,rfl⟩
     ·have HN:Hid (trR sp (M.take n++[b])=trR sp (M.take n)):=by rw[trR_snoc,hb];rfl
      go_wp2_with (first | (go_at_call 115;refine(isSpace_any _ _).mono ?_;rintro e w' ⟨rfl,rfl⟩));go_round
      case rel=>exact⟨n,by omega,by go_num,by rw[HT.out,HG.out,HN.out]⟩
      case measure=>simp[intOf]
end Rws
namespace Blk
open Go.RowKit
open Rws (mk mk_data mk_size mk_of mk_ext mk_get mk_inj)
theorem head_none (s:Ln) (h:∀ f (c:Int),0<=c->c<=2->mark f c≠s):headO s=none:=by
 unfold headO
 rw[if_neg (fun e=>h false 0 (by decide) (by decide) e.symm),if_neg (fun e=>h false 1 (by decide) (by decide) e.symm),if_neg (fun e=>h false 2 (by decide) (by decide) e.symm),
  if_neg (fun e=>h true 0 (by decide) (by decide) e.symm),if_neg (fun e=>h true 1 (by decide) (by decide) e.symm),if_neg (fun e=>h true 2 (by decide) (by decide) e.symm)]
def hdV (s:Ln):Value:=match headO s with
 | some (f,c)=>.tuple #[.agg #[.bool f,.int .i64 c],.bool true]
 | none=>.tuple #[.agg #[.bool false,.int .i64 0],.bool false]
theorem mk_beq (a b:Ln):((mk a).toList==(mk b).toList)=decide (a=b):=by
 rw[ByteArray.toList_eq,ByteArray.toList_eq,mk_data,mk_data];by_cases h:a=b<;>simp[h]
theorem head_yes (s:Ln) (f:Bool) (c:Int) (h0:0<=c) (h2:c<=2) (h:mark f c=s):hdV s=.tuple #[.agg #[.bool f,.int .i64 c],.bool true]:=by
 unfold hdV;rw[<-h,head_mark f c h0 h2]
theorem head_no (s:Ln) (h:∀ f (j:Int),0<=j->j<3->mark f j≠s):hdV s=.tuple #[.agg #[.bool false,.int .i64 0],.bool false]:=by
 unfold hdV;rw[head_none s (fun f c h0 h2=>h f c h0 (by omega))]
theorem ix0 (w:World):(Instr.index 137 (.agg #[.bool false,.bool true]) (.int .i64 0)).run Tryz.prog w=.ok (.bool false) w:=by kernel_rfl
theorem ix1 (w:World):(Instr.index 137 (.agg #[.bool false,.bool true]) (.int .i64 1)).run Tryz.prog w=.ok (.bool true) w:=by kernel_rfl
set_option maxHeartbeats 2000000 in
theorem head_any (s:Ln) (w:World):Calls Tryz.prog 96 #[.string (mk s)] w fun e w'=>e=.returned (hdV s)/\Below w.heap.size w w':=by
 obtain⟨W,hW⟩:∃ W,w.alloc (.cells #[.bool false,.int .i64 0] 127)=W:=⟨_,rfl⟩;have hbW:Below w.heap.size w W:=by rw[<-hW];exact(Below.refl _ _).alloc (Nat.le_refl _) _
 have hWs:W.heap.size=w.heap.size+1:=by rw[<-hW];simp
 have hcW:W.heap[w.heap.size]?=some (.cells #[.bool false,.int .i64 0] 127 (0,0)):=by rw[<-hW];exact heap_alloc_new w _
 have HKK:Hid (∀ W2,Below (w.heap.size+1) W W2->Below w.heap.size w W2/\W2.cell? ⟨w.heap.size,0,none⟩=some (.bool false)/\W2.cell? ⟨w.heap.size,1,none⟩=some (.int .i64 0)/\W2.frozen? ⟨w.heap.size,0,none⟩=false/\W2.frozen? ⟨w.heap.size,1,none⟩=false):=fun W2 hb=>by
  have hk:W2.heap[w.heap.size]?=some (.cells #[.bool false,.int .i64 0] 127 (0,0)):=(hb.block _ (by omega)).trans hcW;exact⟨hbW.trans (hb.mono (by omega)),by rw[Lib.cell_of_heap hk];rfl,by rw[Lib.cell_of_heap hk];rfl,Lib.frozen_of_heap hk 0,Lib.frozen_of_heap hk 1⟩
 have HWS:Hid (W.heap.size=w.heap.size+1):=hWs;clear hbW hcW hWs;have ix0:=ix0;have ix1:=ix1;go_enter Tryz.func96,Tryz.ntmps96;go_wp2
 go_loopw [4] (fun c wr=>∃ k:Nat,k<=3/\c=.int .i64 (k:Int)/\Below (w.heap.size+1) W wr/\w.heap.size+1<=wr.heap.size/\(∀ f (j:Int),0<=j->j<(k:Int)->mark f j≠s)) (fun c _=>3-(intOf c).toNat)
 case atStart=>exact⟨0,by omega,rfl,Below.refl _ _,by rw[HWS.out];exact Nat.le_refl _,fun f j h0 h1=>absurd h1 (by omega)⟩
 case round =>
  clear hW;obtain⟨k,hk,rfl,hbe,hws,hno⟩:=hrel;have HB:Hid (Below (w.heap.size+1) W wr):=hbe;have HN:Hid (∀ f (j:Int),0<=j->j<(k:Int)->mark f j≠s):=hno;clear hbe hno;by_cases hlt:k<3
  ·have hd:decide ((k:Int)<=2)=true:=by simp;omega
   go_wp2;clear hd
   go_loopw [13] (fun i wr2=>∃ j:Nat,j<=2/\i=.int .i64 (j:Int)/\Below (w.heap.size+1) W wr2/\w.heap.size+1<=wr2.heap.size/\(0<j->mark false k≠s)/\(1<j->mark true k≠s)) (fun i _=>2-(intOf i).toNat)
   case atStart=>exact⟨0,by omega,rfl,HB.out,hws,fun h=>absurd h (by omega),fun h=>absurd h (by omega)⟩
   case round =>
    clear HB hws;obtain⟨j,hj,rfl,hbe,hws,n0,n1⟩:=hrel;have HB:Hid (Below (w.heap.size+1) W wr):=hbe;have N0:Hid (0<j->mark false k≠s):=n0;have N1:Hid (1<j->mark true k≠s):=n1;clear hbe n0 n1;rcases(show j=0\/j=1\/j=2 by omega)with rfl | rfl | rfl
    ·go_wp2_with fail;refine(mark_any false k _).mono ?_;rintro e w1 ⟨rfl,hb1⟩;rw[World.size_alloc]at hb1;have hb2:Below (w.heap.size+1) W w1:=(HB.out.alloc hws _).trans (hb1.mono (by omega));have hs1:w.heap.size+1<=w1.heap.size:=by have:=hb1.size;rw[World.size_alloc]at this;omega
     have hcl:w1.heap[wr.heap.size]?=some (.cells #[.bool false,.int .i64 (k:Int)] 127 (0,0)):=(hb1.block _ (by omega)).trans (heap_alloc_new wr _);have e0:w1.cell? ⟨wr.heap.size,0,none⟩=some (.bool false):=by rw[Lib.cell_of_heap hcl];rfl
     have e1:w1.cell? ⟨wr.heap.size,1,none⟩=some (.int .i64 (k:Int)):=by rw[Lib.cell_of_heap hcl];rfl
     obtain⟨b0,d0,d1,d2,d3⟩:=HKK.out _ hb2;have hq:=mk_beq (mark false k) s;clear hb1 hcl;by_cases hm:mark false k=s
     ·rw[decide_eq_true hm]at hq;have HV:=head_yes s false k (by omega) (by omega) hm;go_wp2;refine bodyPost_ret (v:=.tuple #[.agg #[.bool false,.int .i64 (k:Int)],.bool true]) (by simp[results,Tryz.results96,go_sem,d0,d1]) rfl ⟨by rw[HV],(b0.setCell (p:=⟨w.heap.size,0,none⟩) (Nat.le_refl _) _).setCell (p:=⟨w.heap.size,1,none⟩) (Nat.le_refl _) _⟩
     ·rw[decide_eq_false hm]at hq;go_wp2;go_roundw
      case rel=>exact⟨0+1,by omega,by go_num,hb2,hs1,fun _=>hm,fun h=>absurd h (by omega)⟩
      case measure=>(simp[intOf]<;>omega)
    ·go_wp2_with fail;refine(mark_any true k _).mono ?_;rintro e w1 ⟨rfl,hb1⟩;rw[World.size_alloc]at hb1;have hb2:Below (w.heap.size+1) W w1:=(HB.out.alloc hws _).trans (hb1.mono (by omega));have hs1:w.heap.size+1<=w1.heap.size:=by have:=hb1.size;rw[World.size_alloc]at this;omega
     have hcl:w1.heap[wr.heap.size]?=some (.cells #[.bool true,.int .i64 (k:Int)] 127 (0,0)):=(hb1.block _ (by omega)).trans (heap_alloc_new wr _);have e0:w1.cell? ⟨wr.heap.size,0,none⟩=some (.bool true):=by rw[Lib.cell_of_heap hcl];rfl
     have e1:w1.cell? ⟨wr.heap.size,1,none⟩=some (.int .i64 (k:Int)):=by rw[Lib.cell_of_heap hcl];rfl
     obtain⟨b0,d0,d1,d2,d3⟩:=HKK.out _ hb2;have hq:=mk_beq (mark true k) s;clear hb1 hcl;by_cases hm:mark true k=s
     ·rw[decide_eq_true hm]at hq;have HV:=head_yes s true k (by omega) (by omega) hm;go_wp2;refine bodyPost_ret (v:=.tuple #[.agg #[.bool true,.int .i64 (k:Int)],.bool true]) (by simp[results,Tryz.results96,go_sem,d0,d1]) rfl ⟨by rw[HV],(b0.setCell (p:=⟨w.heap.size,0,none⟩) (Nat.le_refl _) _).setCell (p:=⟨w.heap.size,1,none⟩) (Nat.le_refl _) _⟩
     ·rw[decide_eq_false hm]at hq;go_wp2;go_roundw
      case rel=>exact⟨1+1,by omega,by go_num,hb2,hs1,fun _=>N0.out (by omega),fun h=>hm⟩
      case measure=>(simp[intOf]<;>omega)
    ·have n0:=N0.out (by omega);have n1:=N1.out (by omega)
     have HNN:Hid (∀ f (j:Int),0<=j->j<((k+1:Nat):Int)->mark f j≠s):=by
      intro f j h0 h1;by_cases hj:j<(k:Int)
      ·exact HN.out f j h0 hj
      ·obtain rfl:j=(k:Int):=by omega
       cases f
       ·exact n0
       ·exact n1
     clear n0 n1;go_wp2;go_roundw
     case rel=>exact⟨k+1,by omega,by go_num,HB.out,hws,HNN.out⟩
     case measure=>(simp[intOf]<;>omega)
  ·obtain rfl:k=3:=by omega
   have HV:=head_no s HN.out;obtain⟨b0,d0,d1,d2,d3⟩:=HKK.out _ HB.out;clear HN;go_wp2;refine bodyPost_ret (v:=.tuple #[.agg #[.bool false,.int .i64 0],.bool false]) (by simp[results,Tryz.results96,go_sem,d0,d1]) rfl ⟨by rw[HV],(b0.setCell (p:=⟨w.heap.size,0,none⟩) (Nat.le_refl _) _).setCell (p:=⟨w.heap.size,1,none⟩) (Nat.le_refl _) _⟩
end Blk
end Go.Proofs.YtalijhclfppohaaGreatDoor
