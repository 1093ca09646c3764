/- . -/
import Derived.Test.YtalijhclfppohaaGreatDoorR22RowsSeq
import Derived.Test.YtalijhclfppohaaGreatDoorR21RowsTrimO
set_option linter.unusedSimpArgs false
set_option linter.unusedVariables false
set_option maxRecDepth 100000
namespace Go.Proofs.YtalijhclfppohaaGreatDoor
namespace Rws
open Utf
theorem num_map (k:Nat) (L:List (List UInt8)) (h:∀ l∈L,l.length<=140737488355328):(num k L).map (fun x=>x.2.1)=L:=by
 induction L generalizing k with
 | nil=>rfl
 | cons l r ih=>rw[num,List.map_cons,ih _ (fun x hx=>h x (List.mem_cons_of_mem _ hx)),cl_val (h l (List.mem_cons_self ..))]
theorem num_at (k:Nat) (L:List (List UInt8)) (i:Nat) (x:Nat × Lb) (h:(num k L)[i]?=some x):x.1=k+i:=by
 induction L generalizing k i with
 | nil=>simp[num]at h
 | cons l r ih =>
  cases i with
  | zero=>simp[num]at h;rw[<-h];rfl
  | succ i=>rw[num,List.getElem?_cons_succ]at h;have:=ih _ _ h;omega
end Rws
namespace Rws
open Utf
open Go.RowKit Go.Shelf
attribute [local go_sem] Oper.semAt_some
theorem own_later {w w':World} {B:Nat} {e:TypeId} {k n:Nat} {v:Value} {xs:List Value} (h:w.ownsRow B e k v n xs) (hb:Below w.heap.size w w'):w'.ownsRow B e k v n xs:=by
 obtain⟨h1,h2⟩:=h;refine⟨h1,?_⟩;rcases h2 with h2 | ⟨g,cap,cur,hv,hg,hh,rest⟩
 ·exact .inl h2
 ·refine .inr ⟨g,cap,cur,hv,hg,?_,rest⟩;rw[hb.block g (Array.getElem?_eq_some_iff.1 hh).1];exact hh
theorem ownsRow_lower {w:World} {B B':Nat} {e:TypeId} {k n:Nat} {v:Value} {xs:List Value} (h:w.ownsRow B e k v n xs) (hb:B'<=B):w.ownsRow B' e k v n xs:=by
 obtain⟨h1,h2⟩:=h;refine⟨h1,?_⟩;rcases h2 with h2 | ⟨g,cap,cur,hv,hg,rest⟩
 ·exact .inl h2
 ·exact .inr ⟨g,cap,cur,hv,Nat.le_trans hb hg,rest⟩
def cellsOf (x:Nat × Lb):List Value:=[.int .i64 (col x.2.1),.string (mk (text x.2.1)),.int .i64 (x.1:Int)]
def rowsV (pre:List (Nat × Lb)):List Value:=pre.flatMap cellsOf
theorem rowsV_snoc (pre:List (Nat × Lb)) (x:Nat × Lb):rowsV (pre++[x])=rowsV pre++cellsOf x:=by simp[rowsV]
def okN (pre:List (Nat × Lb)):Bool:=okay (pre.map fun x=>x.2.1)
theorem okN_snoc (pre:List (Nat × Lb)) (x:Nat × Lb):okN (pre++[x])=(okN pre && wr x.2.1==0):=by simp[okN,okay]
theorem Tryz.infoRow:(Tryz.prog.info? 52).map (fun i=>(i.zero,i.size,i.bytes))=some (some (.agg #[.int .i64 0,.string ⟨#[]⟩,.int .i64 0]),3,32):=by kernel_rfl
theorem rowOf_agg (l:List UInt8) (k:Int) (w:World) (hs:l.length<=140737488355328):Calls Tryz.prog 23 #[.string (mk l),.int .i64 k] w fun e w'=>e=.returned (.agg #[.int .i64 (col l),.string (mk (text l)),.int .i64 k])/\Below w.heap.size w w':=rowOf_any l k w hs
theorem wrong_agg (l:List UInt8) (k:Int) (w:World) (hs:l.length<=140737488355328):Calls Tryz.prog 24 #[.string (mk l),.agg #[.int .i64 (col l),.string (mk (text l)),.int .i64 k]] w fun e w'=>e=.returned (.int .i64 (wr l))/\Below w.heap.size w w':=wrong_any l k w hs
theorem slice_of_own {w:World} {B:Nat} {e:TypeId} {k n:Nat} {v:Value} {xs:List Value} (h:w.ownsRow B e k v n xs):∃ a c,v=.slice a n c:=by
 rcases h.2 with ⟨rfl,rfl⟩ | ⟨g,cap,_,rfl,_⟩
 ·exact⟨_,_,rfl⟩
 ·exact⟨_,_,rfl⟩
theorem cell2 {W:World} {B:Nat} {t:TypeId} {a b:Value} (h:W.heap[B]?=some (.cells #[a,b] t (0,0))):W.cell? ⟨B,0,none⟩=some a/\W.cell? ⟨B,1,none⟩=some b/\W.frozen? ⟨B,0,none⟩=false/\W.frozen? ⟨B,1,none⟩=false:=by
 refine⟨?_,?_,?_,?_⟩
 ·simp[World.cell?,h]
 ·simp[World.cell?,h]
 ·simp[World.frozen?,h]
 ·simp[World.frozen?,h]
theorem st3 {W:World} {p:Nat} {v a b u u1 u2:Value} (h0:W.cell? ⟨p,0,none⟩=some u) (h1:W.cell? ⟨p+1,0,none⟩=some u1) (h2:W.cell? ⟨p+1,1,none⟩=some u2) :
  (((W.setCell ⟨p,0,none⟩ v).setCell ⟨p+1,0,none⟩ a).setCell ⟨p+1,1,none⟩ b).cell? ⟨p,0,none⟩=some v/\(((W.setCell ⟨p,0,none⟩ v).setCell ⟨p+1,0,none⟩ a).setCell ⟨p+1,1,none⟩ b).cell? ⟨p+1,0,none⟩=some a/\(((W.setCell ⟨p,0,none⟩ v).setCell ⟨p+1,0,none⟩ a).setCell ⟨p+1,1,none⟩ b).cell? ⟨p+1,1,none⟩=some b:=by
 have e1:(⟨p+1,1,none⟩:Addr)≠⟨p,0,none⟩:=by intro h;simp at h
 have e2:(⟨p+1,0,none⟩:Addr)≠⟨p,0,none⟩:=by intro h;simp at h
 have e3:(⟨p+1,1,none⟩:Addr)≠⟨p+1,0,none⟩:=by intro h;simp at h
 refine⟨?_,?_,?_⟩
 ·rw[World.cell?_setCell_other _ _ _ _ e1,World.cell?_setCell_other _ _ _ _ e2];exact World.cell?_setCell_same _ _ _ h0
 ·rw[World.cell?_setCell_other _ _ _ _ e3];exact World.cell?_setCell_same _ _ _ ((World.cell?_setCell_other _ _ _ _ (Ne.symm e2)).trans h1)
 ·exact World.cell?_setCell_same _ _ _ (((World.cell?_setCell_other _ _ _ _ (Ne.symm e3)).trans (World.cell?_setCell_other _ _ _ _ (Ne.symm e1))).trans h2)
theorem st3_keeps (W:World) (p q r:Addr) (u v t:Value):KeepsOthers W (((W.setCell p u).setCell q v).setCell r t):=((KeepsOthers.setCell _ _ _).trans (KeepsOthers.setCell _ _ _)).trans (KeepsOthers.setCell _ _ _)
def rws (s:List UInt8):List (Nat × Lb):=if okay (lns s)=true then num 1 (lns s)else []
def ReadRes (s:List UInt8) (w:World) (e:Ending) (w':World):Prop :=
 ∃ v,e=.returned (.tuple #[v,.agg #[.int .i64 (flt 1 (lns s)).1,.int .i64 (flt 1 (lns s)).2]])/\w'.ownsRow w.heap.size 52 3 v (rws s).length (rowsV (rws s))/\Below w.heap.size w w'
theorem cells_new3 (w:World) (a b c:Value) (t:TypeId):∀ j u,([a,b,c])[j]?=some u->(w.alloc (.cells #[a,b,c] t)).cell? ((⟨w.heap.size,0,none⟩:Addr).add j)=some u:=by
 intro j u hj;have e:(⟨w.heap.size,0,none⟩:Addr).add j=⟨w.heap.size,j,none⟩:=by unfold Addr.add;split<;>simp_all
 rw[e,cell_of_row _ w.heap.size j #[a,b,c] t (0,0) (heap_alloc_new w _)];simpa using hj
theorem one3 (c k:Int) (t:ByteArray):∀ u∈[Value.int .i64 c,.string t,.int .i64 k],u.oneCell'=true:=by
 intro u hu;simp at hu;rcases hu with rfl | rfl | rfl<;>rfl
set_option maxHeartbeats 8000000 in
theorem read_in (s:List UInt8) (hs:s.length<=65536) (w:World):Calls Tryz.prog 13 #[.string (mk s)] w fun e w'=>ReadRes s w e w':=by
 refine(callsIn_wide (n:=4)).1 ?_;have hsz:((mk s).size:Int)<=65536:=by rw[mk_size];omega
 have hml:∀ x∈lns s,x.length<=140737488355328:=fun x hx=>Nat.le_trans (lns_mem_len _ s (Nat.le_refl _) x hx) (by omega)
 have hll:(lns s).length<=65536:=Nat.le_trans (lns_len _ s (Nat.le_refl _)) hs;have HML:Hid (∀ x∈lns s,x.length<=140737488355328):=hml;clear hml;obtain⟨i0,hi,hz0,hz1,hz2⟩:=info_parts Tryz.infoRow;refine callsIn_of_wp_marks Tryz.func13 rfl trivial ?_ rfl;simp only[Tryz.ntmps13,List.size_toArray,List.length_cons,List.length_nil,Nat.reduceAdd,Nat.reduceSub,Array.replicate_succ,Array.replicate_zero,List.push_toArray,List.append_toArray,List.nil_append,List.cons_append]
 gi_wp2_with (first | (refine⟨trivial,?_⟩;gi_at_call 22;refine(numbered_in s _ _).mono ?_;rintro e w' ⟨rfl,rfl⟩))
 obtain⟨W0,hW0⟩:∃ W0,(((w.alloc (.cells #[.slice none 0 0] 22)).alloc (.cells #[.int .i64 0,.int .i64 0] 32)).alloc (.cells #[.slice none 0 0] 22)).alloc (.cells #[.string (mk s)] 9)=W0:=⟨_,rfl⟩;rw[hW0];have hS0:W0.heap.size=w.heap.size+1+1+1+1:=by rw[<-hW0];simp
 have hB0:Below w.heap.size w W0:=by
  rw[<-hW0];exact((((Below.refl _ w).alloc (Nat.le_refl _) _).alloc (by simp) _).alloc (by simp;omega) _).alloc (by simp;omega) _
 have bR:Boxed W0 w.heap.size 22 (.slice none 0 0):=by
  rw[<-hW0];exact(((Boxed.new w _ _).alloc _).alloc _).alloc _
 have bF:W0.heap[w.heap.size+1]?=some (.cells #[.int .i64 0,.int .i64 0] 32 (0,0)):=by
  rw[<-hW0];have h:=World.alloc_heap_new (w.alloc (.cells #[.slice none 0 0] 22)) (.cells #[.int .i64 0,.int .i64 0] 32);rw[World.size_alloc]at h;exact(Below.heap_alloc _ _ _ (by simp)).trans ((Below.heap_alloc _ _ _ (by simp)).trans h)
 have bL:Boxed W0 (w.heap.size+1+1) 22 (.slice none 0 0):=by
  rw[<-hW0];have h:=Boxed.new ((w.alloc (.cells #[.slice none 0 0] 22)).alloc (.cells #[.int .i64 0,.int .i64 0] 32)) 22 (.slice none 0 0);rw[World.size_alloc,World.size_alloc]at h;exact h.alloc _
 have bN:W0.cell? ⟨w.heap.size+1+1+1,0,none⟩=some (.string (mk s)):=by
  rw[<-hW0];have h:=Boxed.new (((w.alloc (.cells #[.slice none 0 0] 22)).alloc (.cells #[.int .i64 0,.int .i64 0] 32)).alloc (.cells #[.slice none 0 0] 22)) 9 (.string (mk s));rw[World.size_alloc,World.size_alloc,World.size_alloc]at h;exact h.cell
 clear hW0
 refine wpIn_rangeFunc_ownG rfl (by decide) (gf:=32) (lb:=#[.pointer (some ⟨w.heap.size+1+1+1,0,none⟩)]) rfl trivial (enters_of Tryz.func32 (by kernel_rfl) rfl)
  (numbered_stops (4-1) (by decide) (w.heap.size+1+1+1) s (by omega) W0 (by omega) bN) (fun _ _=>trivial) (fun _ _ _ _ _ _ _ _=>trivial) (Below.refl _ _) (fun _=>rfl)
  (fun pre W=>(∃ v,Boxed W (w.heap.size+1+1) 22 v/\W.ownsRow (w.heap.size+1+1) 52 3 v pre.length (rowsV pre)/\okN pre=true)/\Below (w.heap.size+1+1) W0 W)
  (fun c pre W=>(c=.ret/\(∃ q x,pre=q++[x]/\okN q=true/\wr x.2.1≠0/\W.cell? ⟨w.heap.size,0,none⟩=some (.slice none 0 0)/\W.cell? ⟨w.heap.size+1,0,none⟩=some (.int .i64 (wr x.2.1))/\W.cell? ⟨w.heap.size+1,1,none⟩=some (.int .i64 (x.1:Int))))/\Below w.heap.size w W)
  (OwnFrom.and (Own.from (holdsRow_own _ _ _ _ 3 (fun pre=>pre.length) (fun pre=>rowsV pre) (fun pre _=>okN pre=true)) _) (ownFrom_below (by omega) (by omega)))
  (fun c=>OwnFrom.and (Own.from (fun t A B row ht hg hr=>by
   obtain⟨h1,q,x,h2,h3,h4,h5,h6,h7⟩:=ht;exact⟨h1,q,x,h2,h3,h4,cell_kept h5 hg hr,cell_kept h6 hg hr,cell_kept h7 hg hr⟩) _) (ownFrom_below (Nat.le_refl _) (by omega)))
  ⟨⟨_,bL,World.ownsRow_nil _ _ _ _,rfl⟩,Below.refl _ _⟩
  (fun x=> { tmps:=#[.string (mk s),undef,.pointer (some ⟨w.heap.size,0,none⟩),.pointer (some ⟨w.heap.size+1,0,none⟩),.pointer (some ⟨w.heap.size+1+1,0,none⟩),.int .i64 (x.1:Int),.string (mk x.2.1),undef,undef,.string (mk s),.int .i64 ((mk s).size:Int),.bool (decide (65536<((mk s).size:Int))),undef,.string (mk s),
    .func (.func 32) #[] #[.pointer (some ⟨w.heap.size+1+1+1,0,none⟩)],.int .i64 (x.1:Int),.string (mk x.2.1),undef,undef,undef,undef,undef,undef,undef,undef,undef,undef,undef,undef,undef,undef,undef,undef,undef],defers:=[] }) ?assign ?body ?done ?stop
 case assign =>
  intro l x W K hK
  gi_wp2
  exact hK
 case body =>
  rintro l pre x W ⟨⟨v,hv,hrow,hok⟩,hB⟩ hlt;have hW:=hB.size;have hpl:pre.length+1<=65536:=by omega
  have hlx:=x.2.2;have hnx:(22:TypeId)≠52:=by decide
  -- what lies in the boxes,in every later world
  have later:∀ W2:World,Below W.heap.size W W2->Boxed W2 (w.heap.size+1+1) 22 v/\W2.ownsRow (w.heap.size+1+1) 52 3 v pre.length (rowsV pre)/\Boxed W2 w.heap.size 22 (.slice none 0 0)/\W2.heap[w.heap.size+1]?=some (.cells #[.int .i64 0,.int .i64 0] 32 (0,0)):=by
   intro W2 h;refine⟨hv.kept (grown_of_below h) (by simp),own_later hrow h,?_,?_⟩
   ·exact(h.block _ (by omega)).trans ((hB.block _ (by omega)).trans bR)
   ·exact(h.block _ (by omega)).trans ((hB.block _ (by omega)).trans bF)
  have LATER:Hid (∀ W2:World,Below W.heap.size W W2->Boxed W2 (w.heap.size+1+1) 22 v/\W2.ownsRow (w.heap.size+1+1) 52 3 v pre.length (rowsV pre)/\Boxed W2 w.heap.size 22 (.slice none 0 0)/\W2.heap[w.heap.size+1]?=some (.cells #[.int .i64 0,.int .i64 0] 32 (0,0))):=later;clear later;by_cases hw0:wr x.2.1=0
  ·have HW0:Hid (wr x.2.1=0):=hw0;clear hw0
   gi_wp2_with (first | (refine⟨trivial,?_⟩;gi_at_call 23;refine(CallsIn.inRound l (callsIn_wide.2 (rowOf_agg x.2.1 x.1 _ hlx))).mono ?_;rintro e w1 ⟨rfl,hb1⟩) | (refine⟨trivial,?_⟩;gi_at_call 24;refine(CallsIn.inRound l (callsIn_wide.2 (wrong_agg x.2.1 x.1 _ hlx))).mono ?_;rintro e w2 ⟨rfl,hb2⟩;rw[HW0.out];have hbW:Below W.heap.size W w2:=(hb1.alloc hb1.size _).trans (hb2.mono (by have:=hb1.size;simp;omega));obtain⟨lv,lrow,lR,lF⟩:=LATER.out w2 hbW;have n0:=cell_new3 w1 (.int .i64 (col x.2.1)) (.string (mk (text x.2.1))) (.int .i64 (x.1:Int)) 52;have q0:=(hb2.cell (p:=⟨w1.heap.size,0,none⟩) (by simp)).trans n0.1;have q1:=(hb2.cell (p:=⟨w1.heap.size,1,none⟩) (by simp)).trans n0.2.1;have q2:=(hb2.cell (p:=⟨w1.heap.size,2,none⟩) (by simp)).trans n0.2.2;clear n0;have lc:=lv.cell;have lcR:=lR.cell;have lfR:=lR.frozen;obtain⟨g0,g1,g2,g3⟩:=cell2 lF;have h2s:=hbW.size) | (gi_at_builtin;refine wpListIn_append_own _ rfl _ _ 22 rfl (w.heap.size+1+1) 52 i0 (.agg #[.int .i64 0,.string ⟨#[]⟩,.int .i64 0]) 3 32 Tryz.underlying22 hi hz0 hz1 hz2 rfl (by decide) _ _ _ rfl (lrow.alloc _) ⟨w2.heap.size,0,none⟩ 1 1 [.int .i64 (col x.2.1),.string (mk (text x.2.1)),.int .i64 (x.1:Int)] rfl rfl (cells_new3 _ _ _ _ _) (one3 _ _ _) (by unfold maxLen;omega) (by omega) (by simp;omega) ?_;intro v' w3 hown' hgrow _;obtain⟨g',cap',rfl⟩:=ownsRow_succ hown';obtain⟨hv1,hv2,hr2,hk2,hb3⟩:=lv.appended (by decide) lrow (by omega) (Nat.le_refl _) hown' hgrow;have hc1:=hv1.cell;have hf1:=hv1.frozen))
   refine⟨?_,trivial,⟨_,hv2,?_,?_⟩,?_⟩
   ·exact((KeepsOthers.of_grownBy (grown_of_below hbW) (fun j o e=>by cases e)).trans hk2).from _
   ·rw[rowsV_snoc,List.length_append];exact hr2
   ·rw[okN_snoc,hok,HW0.out];rfl
   ·exact(hB.trans (hbW.mono (by omega))).trans hb3
  ·have HW0:Hid (wr x.2.1≠0):=hw0;have hwb:(wr x.2.1 != 0)=true:=by simpa using hw0
   clear hw0
   gi_wp2_with (first | (refine⟨trivial,?_⟩;gi_at_call 23;refine(CallsIn.inRound l (callsIn_wide.2 (rowOf_agg x.2.1 x.1 _ hlx))).mono ?_;rintro e w1 ⟨rfl,hb1⟩) | (refine⟨trivial,?_⟩;gi_at_call 24;refine(CallsIn.inRound l (callsIn_wide.2 (wrong_agg x.2.1 x.1 _ hlx))).mono ?_;rintro e w2 ⟨rfl,hb2⟩;have hbW:Below W.heap.size W w2:=(hb1.alloc hb1.size _).trans (hb2.mono (by have:=hb1.size;simp;omega));obtain⟨lv,lrow,lR,lF⟩:=LATER.out w2 hbW;have n0:=cell_new3 w1 (.int .i64 (col x.2.1)) (.string (mk (text x.2.1))) (.int .i64 (x.1:Int)) 52;have q0:=(hb2.cell (p:=⟨w1.heap.size,0,none⟩) (by simp)).trans n0.1;have q1:=(hb2.cell (p:=⟨w1.heap.size,1,none⟩) (by simp)).trans n0.2.1;have q2:=(hb2.cell (p:=⟨w1.heap.size,2,none⟩) (by simp)).trans n0.2.2;clear n0;have lc:=lv.cell;have lcR:=lR.cell;have lfR:=lR.frozen;obtain⟨g0,g1,g2,g3⟩:=cell2 lF;have h2s:=hbW.size))
   have hst:=st3 (v:=.slice none 0 0) (a:=.int .i64 (wr x.2.1)) (b:=.int .i64 (x.1:Int)) lcR g0 g1;refine⟨((KeepsOthers.of_grownBy (grown_of_below hbW) (fun j o e=>by cases e)).trans (st3_keeps _ _ _ _ _ _ _)).from _,⟨rfl,pre,x,rfl,hok,HW0.out,hst.1,hst.2.1,hst.2.2⟩,?_⟩;exact((((hB0.trans (hB.mono (by omega))).trans (hbW.mono (by omega))).setCell (p:=⟨w.heap.size,0,none⟩) (Nat.le_refl _) _).setCell (p:=⟨w.heap.size+1,0,none⟩) (by simp) _).setCell (p:=⟨w.heap.size+1,1,none⟩) (by simp) _
 case done =>
  rintro D ys W hD rfl ⟨⟨v,hv,hrow,hok⟩,hB⟩ hK;obtain⟨va,vc,rfl⟩:=slice_of_own hrow;have hc:=hv.cell;have hr:=(hB.cell (p:=⟨w.heap.size,0,none⟩) (by simp;omega)).trans bR.cell;have hrf:=(hB.frozen (p:=⟨w.heap.size,0,none⟩) (by simp;omega)).trans bR.frozen;obtain⟨f0,f1,f2,f3⟩:=cell2 ((hB.block (w.heap.size+1) (by omega)).trans bF);have hokl:okay (lns s)=true:=by unfold okN at hok;rw[num_map _ _ HML.out]at hok;exact hok
  have HR:Hid (rws s=num 1 (lns s)/\flt 1 (lns s)=(0,0)):=⟨by unfold rws;rw[hokl];rfl,flt_ok _ hokl 1⟩;clear hok hokl
  gi_wp2
  have hK':=(st3_keeps W ⟨w.heap.size,0,none⟩ ⟨w.heap.size+1,0,none⟩ ⟨w.heap.size+1,1,none⟩ (.slice va (num 1 (lns s)).length vc) (.int .i64 0) (.int .i64 0)).same D _ hK rfl;have hst:=st3 (v:=.slice va (num 1 (lns s)).length vc) (a:=.int .i64 0) (b:=.int .i64 0) hr f0 f1;have hbf:=(((hB.mono (B':=w.heap.size) (by omega)).setCell (p:=⟨w.heap.size,0,none⟩) (Nat.le_refl _) (.slice va (num 1 (lns s)).length vc)).setCell (p:=⟨w.heap.size+1,0,none⟩) (by simp) (.int .i64 0)).setCell (p:=⟨w.heap.size+1,1,none⟩) (by simp) (.int .i64 0);have hrw:=ownsRow_setCell_below (ownsRow_setCell_below (ownsRow_setCell_below hrow (a:=⟨w.heap.size,0,none⟩) (by simp;omega) (.slice va (num 1 (lns s)).length vc)) (a:=⟨w.heap.size+1,0,none⟩) (by simp) (.int .i64 0)) (a:=⟨w.heap.size+1,1,none⟩) (by simp) (.int .i64 0);refine⟨by simp,.inl ⟨_,_,rfl,run_takeDeferred hK',?_⟩⟩;have g0:=cell_kept hst.1 (grownBy_putObj' _ D (.deferred none)) (fun r e=>by cases e;exact⟨_,hK',rfl⟩);have g1:=cell_kept hst.2.1 (grownBy_putObj' _ D (.deferred none)) (fun r e=>by cases e;exact⟨_,hK',rfl⟩);have g2:=cell_kept hst.2.2 (grownBy_putObj' _ D (.deferred none)) (fun r e=>by cases e;exact⟨_,hK',rfl⟩);refine⟨.tuple #[.slice va (num 1 (lns s)).length vc,.agg #[.int .i64 0,.int .i64 0]],by simp[results,Tryz.results13,go_sem,g0,g1,g2],?_⟩;refine⟨_,by rw[HR.out.2],?_,?_⟩
  ·rw[HR.out.1];exact ownsRow_putObj (ownsRow_lower hrw (by omega)) _ hK' rfl
  ·exact(hB0.trans hbf).trans (belowK_b (w:=w) (Nat.le_refl _) _ D _ _ (by omega) hK' rfl rfl)
 case stop =>
  rintro D c pre W hD hpre ⟨⟨rfl,q,x,rfl,hq,hx,c0,c1,c2⟩,hB⟩ hK
  have HR:Hid (rws s=[]/\flt 1 (lns s)=(wr x.2.1,(x.1:Int))):=by
   obtain⟨t,ht⟩:=hpre;have h1:=congrArg (List.map fun x:Nat × Lb=>x.2.1) ht;rw[num_map _ _ HML.out,List.map_append,List.map_append,List.append_assoc]at h1;have hq':okay (q.map fun x=>x.2.1)=true:=hq
   have h2:flt 1 (lns s)=(wr x.2.1,((1+(q.map fun x:Nat × Lb=>x.2.1).length:Nat):Int)):=by
    rw[<-h1];exact flt_bad _ hq' _ hx _ 1
   have h3:x.1=1+q.length:=by
    have e:=congrArg (fun L:List (Nat × Lb)=>L[q.length]?) ht;simp only[List.append_assoc,List.singleton_append,List.getElem?_append_right (Nat.le_refl _),Nat.sub_self,List.getElem?_cons_zero]at e;exact num_at 1 (lns s) q.length x e.symm
   refine⟨?_,by rw[h2,List.length_map,h3]⟩;unfold rws;rw[if_neg];intro hok;have:=flt_ok _ hok 1;rw[h2]at this;exact hx (congrArg Prod.fst this)
  gi_wp2
  refine⟨by simp,.inl ⟨_,_,rfl,run_takeDeferred hK,?_⟩⟩;have g0:=cell_kept c0 (grownBy_putObj' _ D (.deferred none)) (fun r e=>by cases e;exact⟨_,hK,rfl⟩);have g1:=cell_kept c1 (grownBy_putObj' _ D (.deferred none)) (fun r e=>by cases e;exact⟨_,hK,rfl⟩);have g2:=cell_kept c2 (grownBy_putObj' _ D (.deferred none)) (fun r e=>by cases e;exact⟨_,hK,rfl⟩);refine⟨.tuple #[.slice none 0 0,.agg #[.int .i64 (wr x.2.1),.int .i64 (x.1:Int)]],by simp[results,Tryz.results13,go_sem,g0,g1,g2],?_⟩;refine⟨_,by rw[HR.out.2],?_,?_⟩
  ·rw[HR.out.1];exact World.ownsRow_nil _ _ _ _
  ·exact hB.trans (belowK_b (w:=w) (Nat.le_refl _) _ D _ _ (by omega) hK rfl rfl)
end Rws
end Go.Proofs.YtalijhclfppohaaGreatDoor
