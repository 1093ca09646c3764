/- . -/
import Derived.Test.YtalijhclfppohaaGreatDoorR18LoadSeq
set_option linter.unusedSimpArgs false
set_option linter.unusedVariables false
set_option maxRecDepth 100000
namespace Go.Proofs.YtalijhclfppohaaGreatDoor
namespace Lod
open Utf Rws Pln Flw Tre
open Go.RowKit Go.Shelf
open Blk (Rw RwAt z3)
attribute [local go_sem] Oper.semAt_some
def anyR (l:List Rw):Prop:=l=l
theorem anyR_any (l:List Rw):anyR l:=rfl
def tmF (ds:List (Int × List Rw)):Int × Int:=match ds[64]? with
 | some d=>(5,d.1)
 | none=>(0,0)
theorem kpd_trans {Bs b:Nat} {A B C:World} (h:KpD Bs b A B) (k:KpD Bs b B C):KpD Bs b A C:=⟨k.1.trans h.1,k.2.1.trans h.2.1,Nat.le_trans h.2.2 k.2.2⟩
theorem rowsB_of {w W:World} {a:Option Addr} {len cap:Nat} {rs:List Rw} (h:Tre.RowsIn w a len cap rs) (hb:Below w.heap.size w W) (Bs:Nat) (hB:Bs<W.heap.size):∃ b,b<W.heap.size/\(b<w.heap.size\/b=Bs)/\RowsB W b a len cap rs:=by
 have h':=h.later hb;by_cases hp:0<len
 ·obtain⟨b,off,had,hlt,_⟩:=h.1.2 hp;have:=hb.size;exact⟨b,by omega,.inl hlt,h',fun _=>⟨off,had⟩⟩
 ·exact⟨Bs,hB,.inr rfl,h',fun q=>absurd q hp⟩
theorem cell2 {W:World} {B:Nat} {t:TypeId} {a b:Value} (h:W.heap[B]?=some (.cells #[a,b] t (0,0))):W.cell? ⟨B,0,none⟩=some a/\W.cell? ⟨B,1,none⟩=some b/\W.frozen? ⟨B,0,none⟩=false/\W.frozen? ⟨B,1,none⟩=false:=by
 refine⟨?_,?_,?_,?_⟩
 ·simp[World.cell?,h]
 ·simp[World.cell?,h]
 ·simp[World.frozen?,h]
 ·simp[World.frozen?,h]
theorem st2 {W:World} {p:Nat} {a b u1 u2:Value} (h1:W.cell? ⟨p,0,none⟩=some u1) (h2:W.cell? ⟨p,1,none⟩=some u2) :
  ((W.setCell ⟨p,0,none⟩ a).setCell ⟨p,1,none⟩ b).cell? ⟨p,0,none⟩=some a/\((W.setCell ⟨p,0,none⟩ a).setCell ⟨p,1,none⟩ b).cell? ⟨p,1,none⟩=some b:=by
 have e3:(⟨p,1,none⟩:Addr)≠⟨p,0,none⟩:=by intro h;simp at h
 refine⟨?_,?_⟩
 ·rw[World.cell?_setCell_other _ _ _ _ e3];exact World.cell?_setCell_same _ _ _ h1
 ·exact World.cell?_setCell_same _ _ _ ((World.cell?_setCell_other _ _ _ _ (Ne.symm e3)).trans h2)
theorem st2_keeps (W:World) (p q:Addr) (u v:Value):KeepsOthers W ((W.setCell p u).setCell q v):=(KeepsOthers.setCell _ _ _).trans (KeepsOthers.setCell _ _ _)
theorem boxed_own {β:Type} (B:Nat) (t:TypeId) (f:β->Value):Own (fun (s:β) W=>Boxed W B t (f s)):=fun s W W' row h hg hr=>h.kept hg (fun e=>by
 obtain⟨o,ho,hc⟩:=hr B e.symm;have hb:W.heap[B]?=_:=h;rw[hb]at ho;cases ho;cases hc)
set_option maxHeartbeats 4000000 in
theorem tooMany_any (a:Option Addr) (len cap:Nat) (rs:List Rw) (w:World) (hR:Tre.RowsIn w a len cap rs):Calls Tryz.prog 25 #[.slice a len cap] w fun e w'=>e=.returned (fV (tmF (docs rs)).1 (tmF (docs rs)).2)/\Below w.heap.size w w':=by
 refine(callsIn_wide (n:=4)).1 ?_;refine callsIn_of_wp_marks Tryz.func25 rfl trivial ?_ rfl;simp only[Tryz.ntmps25,List.size_toArray,List.length_cons,List.length_nil,Nat.reduceAdd,Nat.reduceSub,Array.replicate_succ,Array.replicate_zero,List.push_toArray,List.append_toArray,List.nil_append,List.cons_append]
 gi_wp2_with (first | (refine⟨trivial,?_⟩;gi_at_call 18;refine(documents_in a len cap _ _).mono ?_;rintro e w' ⟨rfl,rfl⟩))
 obtain⟨W0,hW0⟩:∃ W0,((w.alloc (.cells #[.int .i64 0,.int .i64 0] 32)).alloc (.cells #[.int .i64 0] 3)).alloc (.cells #[.slice a len cap] 22)=W0:=⟨_,rfl⟩;rw[hW0];have hS0:W0.heap.size=w.heap.size+1+1+1:=by rw[<-hW0];simp
 have hB0:Below w.heap.size w W0:=by
  rw[<-hW0];exact(((Below.refl _ w).alloc (Nat.le_refl _) _).alloc (by simp) _).alloc (by simp;omega) _
 have bF:W0.heap[w.heap.size]?=some (.cells #[.int .i64 0,.int .i64 0] 32 (0,0)):=by
  rw[<-hW0];exact(Below.heap_alloc _ _ _ (by simp;omega)).trans ((Below.heap_alloc _ _ _ (by simp)).trans (World.alloc_heap_new w _))
 have bC:Boxed W0 (w.heap.size+1) 3 (.int .i64 0):=by
  rw[<-hW0];have h:=Boxed.new (w.alloc (.cells #[.int .i64 0,.int .i64 0] 32)) 3 (.int .i64 0);rw[World.size_alloc]at h;exact h.alloc _
 have bL:W0.cell? ⟨w.heap.size+1+1,0,none⟩=some (.slice a len cap):=by
  rw[<-hW0];have h:=Boxed.new ((w.alloc (.cells #[.int .i64 0,.int .i64 0] 32)).alloc (.cells #[.int .i64 0] 3)) 22 (.slice a len cap);rw[World.size_alloc,World.size_alloc]at h;exact h.cell
 clear hW0;obtain⟨b,hbW,hbo,hRB⟩:=rowsB_of hR hB0 (w.heap.size+1+1) (by omega);have hb1:b≠w.heap.size+1:=by omega
 have hrb:∀ r∈rs,r.2.1.length<=140737488351232:=hR.2.2.2
 refine wpIn_rangeFunc_ownG rfl (by decide) (gf:=28) (lb:=#[.pointer (some ⟨w.heap.size+1+1,0,none⟩)]) rfl trivial (enters_of Tryz.func28 (by kernel_rfl) rfl)
  (docs_stops (P:=anyR) (4-1) (by decide) (w.heap.size+1+1) b a len cap rs (fun _ _=>anyR_any _) hrb W0 (by omega) hbW bL hRB) (fun h k=>kpd_trans h k) (fun X l o o' hl _ _ _=>⟨World.putObj_heap_other (fun e=>by omega),World.putObj_heap_other (fun e=>by omega),by simp[World.putObj]⟩) (Below.refl _ _) (fun _=>rfl)
  (fun (pre:List (Dx W0 b anyR)) W=>(Boxed W (w.heap.size+1) 3 (.int .i64 (pre.length:Int))/\pre.length<=64)/\Below (w.heap.size+1) W0 W)
  (fun c (pre:List (Dx W0 b anyR)) W=>(c=.ret/\(∃ (q:List (Dx W0 b anyR)) (x:Dx W0 b anyR),pre=q++[x]/\q.length=64/\W.cell? ⟨w.heap.size,0,none⟩=some (.int .i64 5)/\W.cell? ⟨w.heap.size,1,none⟩=some (.int .i64 x.1.1)))/\Below w.heap.size w W)
  (OwnFrom.and (OwnFrom.and (Own.from (boxed_own (w.heap.size+1) 3 (fun pre:List (Dx W0 b anyR)=>.int .i64 (pre.length:Int))) _) (fun s W W' row h _ _=>h)) (ownFrom_below (by omega) (by omega)))
  (fun c=>OwnFrom.and (Own.from (fun t A B row ht hg hr=>by
   obtain⟨h1,q,x,h2,h3,h4,h5⟩:=ht;exact⟨h1,q,x,h2,h3,cell_kept h4 hg hr,cell_kept h5 hg hr⟩) _) (ownFrom_below (Nat.le_refl _) (by omega)))
  ⟨⟨bC,Nat.zero_le _⟩,Below.refl _ _⟩
  (fun x=> { tmps:=#[.slice a len cap,undef,.pointer (some ⟨w.heap.size,0,none⟩),.pointer (some ⟨w.heap.size+1,0,none⟩),.int .i64 x.1.1,.slice a len cap,.func (.func 28) #[] #[.pointer (some ⟨w.heap.size+1+1,0,none⟩)],.int .i64 x.1.1,.slice x.1.2.1.1 x.1.2.1.2.1 x.1.2.1.2.2,undef,undef,undef,undef,undef,undef,undef],defers:=[] }) ?assign ?body ?done ?stop
 case assign =>
  intro l x W K hK
  gi_wp2
  exact hK
 case body =>
  rintro l pre x W ⟨⟨hv,h64⟩,hB⟩ hlt;have hW:=hB.size;have c0:=hv.cell;have z0:=hv.frozen;have hF:W.heap[w.heap.size]?=some (.cells #[.int .i64 0,.int .i64 0] 32 (0,0)):=(hB.block _ (by omega)).trans bF;obtain⟨f0,f1,f2,f3⟩:=cell2 hF;by_cases h:pre.length=64
  ·have hb:((pre.length:Int)==64)=true:=by rw[h];rfl
   gi_wp2
   have hst:=st2 (a:=.int .i64 5) (b:=.int .i64 x.1.1) f0 f1;refine⟨(st2_keeps _ _ _ _ _).from _,⟨rfl,pre,x,rfl,h,hst.1,hst.2⟩,?_⟩;exact((hB0.trans (hB.mono (by omega))).setCell (p:=⟨w.heap.size,0,none⟩) (Nat.le_refl _) _).setCell (p:=⟨w.heap.size,1,none⟩) (Nat.le_refl _) _
  ·have hb:((pre.length:Int)==64)=false:=by rw[beq_eq_false_iff_ne];omega
   gi_wp2
   have e1:((pre++[x]).length:Int)=(pre.length:Int)+1:=by rw[List.length_append];simp
   refine⟨(KeepsOthers.setCell _ _ _).from _,⟨Below.heap_setCell _ _ _ _ (by show w.heap.size+1+1≠w.heap.size+1;omega),Below.heap_setCell _ _ _ _ hb1,by rw[World.size_setCell];exact Nat.le_refl _⟩,⟨?_,?_⟩,?_⟩
   ·have:=hv.set (.int .i64 ((pre.length:Int)+1));rw[e1];exact this
   ·rw[List.length_append];simp;omega
   ·exact hB.setCell (p:=⟨w.heap.size+1,0,none⟩) (Nat.le_refl _) _
 case done =>
  rintro D ys W hD hys ⟨⟨hv,h64⟩,hB⟩ hK;have hF:W.heap[w.heap.size]?=some (.cells #[.int .i64 0,.int .i64 0] 32 (0,0)):=(hB.block _ (by omega)).trans bF;obtain⟨f0,f1,f2,f3⟩:=cell2 hF
  have HR:Hid (tmF (docs rs)=(0,0)):=by
   show _=_;unfold tmF;rw[List.getElem?_eq_none];rw[<-hys,List.length_map];exact h64
  clear hv hys
  gi_wp2
  have hK':=(st2_keeps W ⟨w.heap.size,0,none⟩ ⟨w.heap.size,1,none⟩ (.int .i64 0) (.int .i64 0)).same D _ hK rfl;have hst:=st2 (a:=.int .i64 0) (b:=.int .i64 0) f0 f1;have hbf:=((hB0.trans (hB.mono (B':=w.heap.size) (by omega))).setCell (p:=⟨w.heap.size,0,none⟩) (Nat.le_refl _) (.int .i64 0)).setCell (p:=⟨w.heap.size,1,none⟩) (Nat.le_refl _) (.int .i64 0);refine⟨by simp,.inl ⟨_,_,rfl,run_takeDeferred hK',?_⟩⟩;have g0:=cell_kept hst.1 (grownBy_putObj' _ D (.deferred none)) (fun r e=>by cases e;exact⟨_,hK',rfl⟩);have g1:=cell_kept hst.2 (grownBy_putObj' _ D (.deferred none)) (fun r e=>by cases e;exact⟨_,hK',rfl⟩);refine⟨.agg #[.int .i64 0,.int .i64 0],by simp[results,Tryz.results25,go_sem,g0,g1],?_⟩;exact⟨by rw[HR.out],hbf.trans (belowK_b (w:=w) (Nat.le_refl _) _ D _ _ (by omega) hK' rfl rfl)⟩
 case stop =>
  rintro D c pre W hD hpre ⟨⟨rfl,q,x,rfl,hq,c0,c1⟩,hB⟩ hK
  have HR:Hid (tmF (docs rs)=(5,x.1.1)):=by
   obtain⟨t,ht⟩:=hpre;show _=_;unfold tmF;rw[<-ht,List.map_append,List.append_assoc,List.getElem?_append_right (by rw[List.length_map];omega),List.length_map,hq];rfl
  gi_wp2
  refine⟨by simp,.inl ⟨_,_,rfl,run_takeDeferred hK,?_⟩⟩;have g0:=cell_kept c0 (grownBy_putObj' _ D (.deferred none)) (fun r e=>by cases e;exact⟨_,hK,rfl⟩);have g1:=cell_kept c1 (grownBy_putObj' _ D (.deferred none)) (fun r e=>by cases e;exact⟨_,hK,rfl⟩);refine⟨.agg #[.int .i64 5,.int .i64 x.1.1],by simp[results,Tryz.results25,go_sem,g0,g1],?_⟩;exact⟨by rw[HR.out],hB.trans (belowK_b (w:=w) (Nat.le_refl _) _ D _ _ (by omega) hK rfl rfl)⟩
end Lod
end Go.Proofs.YtalijhclfppohaaGreatDoor
