/- . -/
import Derived.RangeFuncNested
import Derived.RangeFuncBound
import Derived.RangeFuncBox
import Derived.RangeFuncCalls
import Derived.RangeFuncLeaves
import Derived.Shelf.Abstract
import Derived.Shelf.RegionOpen
import Derived.WalkKit
import Derived.OwnWalkIn
import Derived.TacticsInMore
import Derived.LoopNIn
import Derived.LoopIn
import Derived.Test.YtoaomiiakibanaaGreatDoorQTreeHds
import Derived.Test.YtoaomiiakibanaaGreatDoorQTbG
import Derived.Test.YtoaomiiakibanaaGreatDoorQFlowRsame
import Derived.Test.YtoaomiiakibanaaGreatDoorQTreeIval
import Derived.Test.YtoaomiiakibanaaGreatDoorQTbI
import Derived.Deep.RegionWith
import Derived.BigRegionIn
set_option linter.unusedSimpArgs false
set_option linter.unusedVariables false
set_option maxRecDepth 100000
namespace Go.Proofs.YtoaomiiakibanaaGreatDoor
namespace Tre
open Utf Rws Pln Flw
open Go.RowKit Go.Shelf
open Blk (Rw RwAt z3)
attribute [local go_sem] Oper.semAt_some
def hd0:Hd:=(z3,⟨[],0⟩)
def rv (hs:List Hd):Nat->List (Nat × Hd)
 | 0=>[]
 | n+1=>(n,hs.getD n hd0)::rv hs n
theorem rv_len (hs:List Hd):∀ n,(rv hs n).length=n
 | 0=>rfl
 | n+1=>by rw[rv,List.length_cons,rv_len hs n]
theorem rv_map (hs:List Hd):∀ n,n<=hs.length->(rv hs n).map (·.2)=(hs.take n).reverse
 | 0,_=>rfl
 | n+1,h=>by
  rw[rv,List.map_cons,rv_map hs n (by omega),List.take_add_one,List.reverse_append,List.getD_eq_getElem?_getD,List.getElem?_eq_getElem (by omega)];rfl
structure HdAt (w:World) (Bs:Nat) (a:Option Addr) (len cap:Nat) (hs:List Hd):Prop where
 bx:w.cell? ⟨Bs,0,none⟩=some (.slice a len cap)
 hl:len=hs.length
 ad:∀ i,i<len->∃ g,a=some ⟨g,0,none⟩/\w.cell? ⟨g,i*5,none⟩=some (.int .i64 (hs.getD i hd0).1.1)/\w.cell? ⟨g,i*5+1,none⟩=some (.string (mk (hs.getD i hd0).1.2.1))/\w.cell? ⟨g,i*5+2,none⟩=some (.int .i64 (hs.getD i hd0).1.2.2)/\w.cell? ⟨g,i*5+3,none⟩=some (.string (mk (hs.getD i hd0).2.anc))/\w.cell? ⟨g,i*5+4,none⟩=some (.int .i64 (hs.getD i hd0).2.tag)
def KpH (Bs:Nat) (a:Option Addr) (W W':World):Prop:=W'.heap[Bs]?=W.heap[Bs]?/\∀ g,a=some ⟨g,0,none⟩->W'.heap[g]?=W.heap[g]?
theorem HdAt.kp {W W':World} {Bs:Nat} {a:Option Addr} {len cap:Nat} {hs:List Hd} (h:HdAt W Bs a len cap hs) (hk:KpH Bs a W W'):HdAt W' Bs a len cap hs:=by
 refine⟨(World.cell?_of_block (w:=W) hk.1).trans h.bx,h.hl,fun i hi=> ?_⟩;obtain⟨g,e,c0,c1,c2,c3,c4⟩:=h.ad i hi;have q:∀ n,W'.cell? ⟨g,n,none⟩=W.cell? ⟨g,n,none⟩:=fun n=>World.cell?_of_block (w:=W) (hk.2 g e)
 exact⟨g,e,(q _).trans c0,(q _).trans c1,(q _).trans c2,(q _).trans c3,(q _).trans c4⟩
set_option maxHeartbeats 2000000 in
theorem back1_in (n:Nat) (hn:1<=n) (l Bs:Nat) (a:Option Addr) (len cap:Nat) (hs:List Hd) (hlen:len<=9223372036854775807) (J Jx:List (Nat × Hd)->World->Prop) (W:World)
  (hY:∀ pre x W1,J pre W1->pre.length<len->YieldAt Fence.wide (n-1) Tryz.prog l #[.int .i64 (x.1:Int),hV x.2] W1 fun e W' =>
   (e=.returned (.bool true)/\J (pre++[x]) W'/\KpH Bs a W1 W')\/(e=.returned (.bool false)/\Jx (pre++[x]) W'))
  (hH:HdAt W Bs a len cap hs) (h0:J [] W) :
  CallsIn Fence.wide n Tryz.prog 119 #[.func (.yield l) #[] #[],.pointer (some ⟨Bs,0,none⟩)] W fun e W'=>(∃ v,e=.returned v) /\
   ((∃ ys,ys=rv hs len/\J ys W')\/(∃ pre,pre <+: rv hs len/\Jx pre W')):=by
 have hbx:=hH.bx;refine callsIn_of_wp Tryz.func119 rfl trivial ?_ rfl;simp only[Tryz.ntmps119,List.size_toArray,List.length_cons,List.length_nil,Nat.reduceAdd,Nat.reduceSub,Array.replicate_succ,Array.replicate_zero,List.push_toArray,List.append_toArray,List.nil_append,List.cons_append];have HH:Hid (HdAt W Bs a len cap hs):=hH;clear hH
 gi_wp2
 gi_loopw [3] (fun u wr=>∃ (k:Nat) (pre:List (Nat × Hd)),u=.int .i64 ((k:Int)-1)/\k<=len/\Hid (pre++rv hs k=rv hs len)/\Hid (HdAt wr Bs a len cap hs)/\J pre wr) (fun u _=>(intOf u+1).toNat)
 case atStart=>exact⟨len,[],rfl,Nat.le_refl _,rfl,HH,h0⟩
 case round =>
  obtain⟨k,pre,rfl,hk,HX,HS,hJ⟩:=hrel;have hbr:=HS.out.bx
  cases k with
  | zero =>
   gi_wp2
   go_end0;exact⟨⟨_,rfl⟩,.inl ⟨pre,by have:=HX.out;rw[rv,List.append_nil]at this;exact this,hJ⟩⟩
  | succ j =>
   rw[show (((j+1:Nat):Int)-1)=(j:Int) by omega];obtain⟨g,rfl,c0,c1,c2,c3,c4⟩:=HS.out.ad j (by omega)
   have hpl:pre.length<len:=by
    have:=congrArg List.length HX.out;rw[List.length_append,rv_len,rv_len]at this;omega
   obtain⟨fn,tmps,assign,body,hy,hR⟩:=hY pre (j,hs.getD j hd0) wr hJ hpl;dsimp only at hy
   have HX2:Hid ((pre++[(j,hs.getD j hd0)])++rv hs j=rv hs len):=by
    have:=HX.out;rw[rv]at this;show _=_;rw[List.append_assoc];exact this
   generalize hs.getD j hd0=hh at *;clear HX
   gi_wp2
   refine hR.mono ?_;rintro e W3 (⟨rfl,hJ3,hK3⟩ | ⟨rfl,hJx3⟩)
   ·have HS3:Hid (HdAt W3 Bs (some ⟨g,0,none⟩) len cap hs):=HS.out.kp hK3
    gi_wp2
    go_roundw
    case rel=>exact⟨j,pre++[(j,hh)],by go_num,by omega,HX2,HS3,hJ3⟩
    case measure=>simp[intOf]
   ·gi_wp2
    refine bodyPost_ret (results_none rfl _ _ _) rfl ?_;exact⟨⟨_,rfl⟩,.inr ⟨pre++[(j,hh)],⟨rv hs j,HX2.out⟩,hJx3⟩⟩
theorem back_in (a:Option Addr) (len cap:Nat) (n:Nat) (w:World) :
  CallsIn Fence.wide n Tryz.prog 71 #[.slice a len cap] w fun e w'=>e=.returned (.func (.func 119) #[] #[.pointer (some ⟨w.heap.size,0,none⟩)])/\w'=w.alloc (.cells #[.slice a len cap] 111):=by
 refine callsIn_of_wp Tryz.func71 rfl trivial ?_ rfl;simp only[Tryz.ntmps71,List.size_toArray,List.length_cons,List.length_nil,Nat.reduceAdd,Nat.reduceSub,Array.replicate_succ,Array.replicate_zero,List.push_toArray,List.append_toArray,List.nil_append,List.cons_append]
 gi_wp2
 go_ret;exact⟨rfl,rfl⟩
theorem HdAt.later {W W':World} {Bs:Nat} {a:Option Addr} {len cap:Nat} {hs:List Hd} (h:HdAt W Bs a len cap hs) (hb:Below W.heap.size W W') (hB:Bs<W.heap.size) (hg:∀ g,a=some ⟨g,0,none⟩->g<W.heap.size):HdAt W' Bs a len cap hs :=
 h.kp ⟨hb.block Bs hB,fun g e=>hb.block g (hg g e)⟩
theorem back_stops (n:Nat) (hn:1<=n) (Bs:Nat) (a:Option Addr) (len cap:Nat) (hs:List Hd) (hlen:len<=9223372036854775807) (w:World) (hB:Bs<w.heap.size) (hg:∀ g,a=some ⟨g,0,none⟩->g<w.heap.size) (hH:HdAt w Bs a len cap hs) :
  SeqStopsK Fence.wide n Tryz.prog 119 #[.pointer (some ⟨Bs,0,none⟩)] (fun x:Nat × Hd=>#[Value.int .i64 (x.1:Int),hV x.2]) (KpH Bs a) (fun ys=>ys=rv hs len) (fun pre=>pre <+: rv hs len) len w:=fun l J Jx W hW hJ _ hY h0 =>
 back1_in n hn l Bs a len cap hs hlen J Jx W hY (hH.later hW hB hg) h0
end Tre
namespace Tre
open Utf Rws Pln Flw
open Go.RowKit Go.Shelf
open Blk (Rw RwAt z3)
theorem samePp_nil {p:Pp} (h:samePp p ⟨[],0⟩=true):p=⟨[],0⟩:=samePp_eq h
theorem onRows_all (h:Hd) (t:Tr) (ad:Option Addr) (len cap:Nat) (w:World):Calls Tryz.prog 72 #[.agg #[.string (mk h.2.anc),.int .i64 h.2.tag],.agg #[.int .i64 t.kind,.string (mk t.text),.string (mk t.anc),.slice ad len cap],.agg #[.int .i64 h.1.1,.string (mk h.1.2.1),.int .i64 h.1.2.2]] w fun e w' =>
  (∃ ad' len' cap',e=.returned (.tuple #[.agg #[.int .i64 (orM h t).1.kind,.string (mk (orM h t).1.text),.string (mk (orM h t).1.anc),.slice ad' len' cap'],.agg #[.int .i64 (orM h t).2.1,.int .i64 (orM h t).2.2]]) /\
   Hid ((ad'=ad/\len'=len/\cap'=cap/\(orM h t).1.kids=t.kids/\(orM h t).1.kind=t.kind/\(orM h t).1.text=t.text/\((orM h t).1.anc=t.anc\/(orM h t).1.anc=h.2.anc))\/(ad'=none/\len'=0/\cap'=0/\(orM h t).1=tr0)))/\Below w.heap.size w w':=by
 obtain⟨⟨hc,hx,hz⟩,p⟩:=h;unfold orM;dsimp only;cases hs:samePp p ⟨[],0⟩
 ·rw[if_neg (by simp)];cases ho:orB p t.kind t.anc
  ·rw[if_neg (by simp)];cases hn:onB p t.kind
   ·rw[if_neg (by simp)];refine(onRows_yes p t.kind t.text t.anc ad len cap hc hx hz w hs ho hn).mono ?_;rintro e w' ⟨rfl,hb⟩;exact⟨⟨ad,len,cap,rfl,.inl ⟨rfl,rfl,rfl,rfl,rfl,rfl,.inr rfl⟩⟩,hb⟩
   ·rw[if_pos rfl];refine(onRows_no p t.kind t.text t.anc ad len cap hc hx hz w hs ho hn).mono ?_;rintro e w' ⟨rfl,hb⟩;exact⟨⟨none,0,0,rfl,.inr ⟨rfl,rfl,rfl,rfl⟩⟩,hb⟩
  ·rw[if_pos rfl];refine(onRows_bad p t.kind t.text t.anc ad len cap hc hx hz w hs ho).mono ?_;rintro e w' ⟨rfl,hb⟩;exact⟨⟨none,0,0,rfl,.inr ⟨rfl,rfl,rfl,rfl⟩⟩,hb⟩
 ·have e:=samePp_nil hs;subst e;rw[if_pos rfl];refine(onRows_none t.kind t.text t.anc ad len cap hc hx hz w).mono ?_;rintro e w' ⟨rfl,hb⟩;exact⟨⟨ad,len,cap,rfl,.inl ⟨rfl,rfl,rfl,rfl,rfl,rfl,.inl rfl⟩⟩,hb⟩
theorem onNothing_all (h:Hd) (w:World):Calls Tryz.prog 70 #[.agg #[.string (mk h.2.anc),.int .i64 h.2.tag],.agg #[.int .i64 h.1.1,.string (mk h.1.2.1),.int .i64 h.1.2.2]] w fun e w' =>
  e=.returned (.tuple #[.agg #[.int .i64 (noM h).1.kind,.string (mk (noM h).1.text),.string (mk (noM h).1.anc),.slice none 0 0],.agg #[.int .i64 (noM h).2.1,.int .i64 (noM h).2.2]])/\Below w.heap.size w w':=by
 obtain⟨⟨hc,hx,hz⟩,p⟩:=h;unfold noM;dsimp only;cases hn:onB p (nuK p)
 ·rw[if_neg (by simp)];exact onNothing_yes p hc hx hz w hn
 ·rw[if_pos rfl];exact onNothing_no p hc hx hz w hn
def cur (pre:List (Nat × Hd)) (r:Tf):Tf:=pre.foldl (fun r x=>orM x.2 r.1) r
theorem cur_snoc (pre:List (Nat × Hd)) (x:Nat × Hd) (r:Tf):cur (pre++[x]) r=orM x.2 (cur pre r).1:=by simp[cur]
def okP (pre:List (Nat × Hd)) (r:Tf):Prop:=∀ q x s,pre=q++x::s->(cur q r).2.1=0
theorem okP_nil (r:Tf):okP [] r:=fun q x s h=>by cases q<;>cases h
theorem okP_snoc {pre:List (Nat × Hd)} {r:Tf} (h:okP pre r) (h0:(cur pre r).2.1=0) (x:Nat × Hd):okP (pre++[x]) r:=by
 intro q y s e;rcases List.eq_nil_or_concat s with rfl | ⟨s',z,rfl⟩
 ·have e2:pre=q/\x=y:=by
   have:=List.append_inj' (s₁:=pre) (s₂:=q) e rfl;exact⟨this.1,by simpa using this.2⟩
  rw[<-e2.1];exact h0
 ·rw[List.concat_eq_append,<-List.cons_append,<-List.append_assoc]at e;exact h q y s' (List.append_inj' e rfl).1
theorem bak_app:∀ (pre:List (Nat × Hd)) (r:Tf) (rest:List Hd),okP pre r->bak (pre.map (·.2)++rest) r=bak rest (cur pre r)
 | [],r,rest,_=>rfl
 | x::pre,r,rest,h=>by
  have h0:r.2.1=0:=h [] x pre rfl;rw[List.map_cons,List.cons_append,bak,if_neg (by simp[h0])];exact bak_app pre (orM x.2 r.1) rest (fun q y s e=>h (x::q) y s (by rw[e];rfl))
structure Be (W0 W:World) (KT KF C d:Nat) (A:Prop) (r:Tf):Prop where
 os:W.os=W0.os
 tape:W.tape=W0.tape
 out:W.output=W0.output
 size:W0.heap.size<=W.heap.size
 keep:∀ j,j<W0.heap.size->j≠KT->j≠KF->W.heap[j]?=W0.heap[j]?
 t:∃ ad len cap,Bx W KT #[.int .i64 r.1.kind,.string (mk r.1.text),.string (mk r.1.anc),.slice ad len cap] 26/\(A->TrQ (fun g=>C<=g/\g<W0.heap.size) W d (.agg #[.int .i64 r.1.kind,.string (mk r.1.text),.string (mk r.1.anc),.slice ad len cap]) r.1)
 f:Bx W KF #[.int .i64 r.2.1,.int .i64 r.2.2] 34
variable {W0 W W':World} {KT KF C d:Nat} {A A2:Prop} {r:Tf}
theorem Be.grown (h:Be W0 W KT KF C d A r) (hs:W.heap.size<=W'.heap.size) (ho:W'.os=W.os) (ht:W'.tape=W.tape) (hu:W'.output=W.output) (hk:∀ j,j<W0.heap.size->W'.heap[j]?=W.heap[j]?) (hKT:KT<W0.heap.size) (hKF:KF<W0.heap.size):Be W0 W' KT KF C d A r:=by
 refine⟨ho.trans h.os,ht.trans h.tape,hu.trans h.out,Nat.le_trans h.size hs,fun j hj h1 h2=>(hk j hj).trans (h.keep j hj h1 h2),?_,(hk KF hKF).trans h.f⟩;obtain⟨ad,len,cap,h1,h2⟩:=h.t;exact⟨ad,len,cap,(hk KT hKT).trans h1,fun ha=>(h2 ha).keep hs (fun j hj _=>hk j hj.2)⟩
theorem be_own (W0:World) (KT KF C d:Nat) (hKT:KT<W0.heap.size) (hKF:KF<W0.heap.size) (G:List (Nat × Hd)->Prop) (r:List (Nat × Hd)->Tf) (P:List (Nat × Hd)->Prop):OwnFrom W0.heap.size (fun pre W=>Be W0 W KT KF C d (G pre) (r pre)/\P pre):=by
 intro pre A B row h hg hr;refine⟨h.1.grown hg.size hg.os hg.tape hg.output (fun j hj=>hg.block j (Nat.lt_of_lt_of_le hj h.1.size) (fun e=> ?_)) hKT hKF,h.2⟩;have:=(hr j e.symm).1;omega
set_option maxHeartbeats 2000000 in
theorem be_set (h:Be W0 W KT KF C d A r) (hne:KT≠KF) (hKT:KT<C) (hKF:KF<C) (hTl:KT<W0.heap.size) (hFl:KF<W0.heap.size) (r2:Tf) (ad:Option Addr) (len cap:Nat)
  (hq:A2->TrQ (fun g=>C<=g/\g<W0.heap.size) W d (.agg #[.int .i64 r2.1.kind,.string (mk r2.1.text),.string (mk r2.1.anc),.slice ad len cap]) r2.1) :
  Be W0 (fill6 W KT KF (.int .i64 r2.1.kind) (.string (mk r2.1.text)) (.string (mk r2.1.anc)) (.slice ad len cap) (.int .i64 r2.2.1) (.int .i64 r2.2.2)) KT KF C d A2 r2:=by
 obtain⟨ad0,len0,cap0,hb0,_⟩:=h.t
 have hk:∀ j,j≠KT->j≠KF->(fill6 W KT KF (.int .i64 r2.1.kind) (.string (mk r2.1.text)) (.string (mk r2.1.anc)) (.slice ad len cap) (.int .i64 r2.2.1) (.int .i64 r2.2.2)).heap[j]?=W.heap[j]?:=fun j h1 h2=>by
  unfold fill6 fill4;rw[Below.heap_setCell _ _ _ _ h2,Below.heap_setCell _ _ _ _ h2,Below.heap_setCell _ _ _ _ h1,Below.heap_setCell _ _ _ _ h1,Below.heap_setCell _ _ _ _ h1,Below.heap_setCell _ _ _ _ h1]
 have hs:(fill6 W KT KF (.int .i64 r2.1.kind) (.string (mk r2.1.text)) (.string (mk r2.1.anc)) (.slice ad len cap) (.int .i64 r2.2.1) (.int .i64 r2.2.2)).heap.size=W.heap.size:=by
  unfold fill6 fill4;simp only[World.size_setCell]
 have hbl:Below 0 W (fill6 W KT KF (.int .i64 r2.1.kind) (.string (mk r2.1.text)) (.string (mk r2.1.anc)) (.slice ad len cap) (.int .i64 r2.2.1) (.int .i64 r2.2.2)):=by
  unfold fill6 fill4;exact((((((Below.refl 0 W).setCell (Nat.zero_le _) _).setCell (Nat.zero_le _) _).setCell (Nat.zero_le _) _).setCell (Nat.zero_le _) _).setCell (Nat.zero_le _) _).setCell (Nat.zero_le _) _
 refine⟨hbl.os.trans h.os,hbl.tape.trans h.tape,hbl.output.trans h.out,by rw[hs];exact h.size,fun j hj h1 h2=>(hk j h1 h2).trans (h.keep j hj h1 h2),⟨ad,len,cap,?_,fun ha=>(hq ha).keep (Nat.le_of_eq hs.symm) (fun j hj _=>hk j (by have:=hj.1;omega) (by have:=hj.1;omega))⟩,?_⟩
 ·unfold fill6 fill4;exact((((((hb0.set 0 _).set 1 _).set 2 _).set 3 _).other hne _ _).other hne _ _)
 ·unfold fill6 fill4;have hn2:KF≠KT:=fun e=>hne e.symm
  exact(((((h.f.other hn2 _ _).other hn2 _ _).other hn2 _ _).other hn2 _ _).set 0 _).set 1 _
theorem trq_anc {P:Nat->Prop} {ad:Option Addr} {len cap:Nat} {t t':Tr} (h:TrQ P W d (.agg #[.int .i64 t.kind,.string (mk t.text),.string (mk t.anc),.slice ad len cap]) t) (hk:t'.kids=t.kids) (h1:t'.kind=t.kind) (h2:t'.text=t.text) (hl:t'.anc.length<=9223372036854775807) :
  TrQ P W d (.agg #[.int .i64 t'.kind,.string (mk t'.text),.string (mk t'.anc),.slice ad len cap]) t':=by
 cases d with
 | zero=>exact h.elim
 | succ d =>
  obtain⟨ad2,len2,cap2,e,hl2,hc,hm,hz,hkk⟩:=h;simp only[Value.agg.injEq,Array.mk.injEq,List.cons.injEq,and_true,true_and,Value.slice.injEq]at e;obtain⟨rfl,rfl,rfl⟩:=e;refine⟨ad,len,cap,rfl,by rw[hk];exact hl2,hc,hm,⟨by rw[h1];exact hz.1,by rw[h1];exact hz.2.1,by rw[h2];exact hz.2.2.1,hl⟩,fun hp=> ?_⟩;obtain⟨g,off,q1,q2,q3,q4⟩:=hkk hp;exact⟨g,off,q1,q2,q3,fun i hi=>by rw[hk];exact q4 i hi⟩
theorem trq_zero {P:Nat->Prop} (hd:1<=d):TrQ P W d (.agg #[.int .i64 tr0.kind,.string (mk tr0.text),.string (mk tr0.anc),.slice none 0 0]) tr0:=by
 obtain⟨e,rfl⟩:∃ e,d=e+1:=⟨d-1,by omega⟩;exact⟨none,0,0,rfl,rfl,Nat.le_refl _,Nat.zero_le _,⟨by decide,by decide,by decide,by decide⟩,fun h=>absurd h (by decide)⟩
theorem trq_ancl {P:Nat->Prop} {v:Value} {t:Tr} (h:TrQ P W d v t):t.anc.length<=9223372036854775807:=by
 cases d with
 | zero=>exact h.elim
 | succ d =>
  obtain⟨_,_,_,_,_,_,_,hz,_⟩:=h;exact hz.2.2.2
def ancs (pre:List (Nat × Hd)):Prop:=∀ y∈pre,y.2.2.anc.length<=9223372036854775807
end Tre
namespace Tre
open Utf Rws Pln Flw
open Go.RowKit Go.Shelf
open Blk (Rw RwAt z3)
set_option maxHeartbeats 8000000
attribute [local go_sem] Oper.semAt_some
theorem four_bx (w:World) (c0 c1 c2 c3:Array Value) (t0 t1 t2 t3:TypeId) :
  Below w.heap.size w ((((w.alloc (.cells c0 t0)).alloc (.cells c1 t1)).alloc (.cells c2 t2)).alloc (.cells c3 t3))/\Bx ((((w.alloc (.cells c0 t0)).alloc (.cells c1 t1)).alloc (.cells c2 t2)).alloc (.cells c3 t3)) w.heap.size c0 t0 /\
  Bx ((((w.alloc (.cells c0 t0)).alloc (.cells c1 t1)).alloc (.cells c2 t2)).alloc (.cells c3 t3)) (w.heap.size+1) c1 t1/\Bx ((((w.alloc (.cells c0 t0)).alloc (.cells c1 t1)).alloc (.cells c2 t2)).alloc (.cells c3 t3)) (w.heap.size+1+1) c2 t2 /\
  Bx ((((w.alloc (.cells c0 t0)).alloc (.cells c1 t1)).alloc (.cells c2 t2)).alloc (.cells c3 t3)) (w.heap.size+1+1+1) c3 t3:=by
 have h:=three_new w c0 c1 c2 t0 t1 t2;have s:(((w.alloc (.cells c0 t0)).alloc (.cells c1 t1)).alloc (.cells c2 t2)).heap.size=w.heap.size+1+1+1:=by simp only[World.size_alloc]
 have b:=below_alloc (((w.alloc (.cells c0 t0)).alloc (.cells c1 t1)).alloc (.cells c2 t2)) (.cells c3 t3);have n:=Bx.new (((w.alloc (.cells c0 t0)).alloc (.cells c1 t1)).alloc (.cells c2 t2)) c3 t3;rw[s]at n;exact⟨h.1.trans (b.mono h.1.size),h.2.1.later b,h.2.2.1.later b,h.2.2.2.later b,n⟩
theorem own_ne {w:World} {B K:Nat} {e t:TypeId} {k n:Nat} {v:Value} {xs:List Value} {cs:Array Value} (h:w.ownsRow B e k v n xs) (hb:Bx w K cs t) (hne:e≠t):∀ j,v.ownBlock=some j->j≠K:=by
 intro j hj hk;subst hk;rcases h.2 with ⟨rfl,_⟩ | ⟨g,cap,cur,rfl,_,hh,_⟩
 ·cases hj
 ·cases hj;have:=hh.symm.trans hb;simp only[Option.some.injEq,Obj.cells.injEq]at this;exact hne this.2.1
theorem hdat_of {w:World} {B Bs:Nat} {ha:Option Addr} {n m hcap:Nat} {hs:List Hd} (h:w.ownsRow B 115 5 (.slice ha n hcap) n (hCs hs)) (hn:n=hs.length) (hm:m<=n) (hb:w.cell? ⟨Bs,0,none⟩=some (.slice ha m hcap)):HdAt w Bs ha m hcap (hs.take m):=by
 refine⟨hb,by rw[List.length_take];omega,fun i hi=> ?_⟩;rcases h.2 with ⟨q,h0⟩ | ⟨g,cap,cur,q,_,hh,h1,h2,h3,h4⟩
 ·omega
 ·simp only[Value.slice.injEq]at q
  have hc:∀ j,j<5->w.cell? ⟨g,i*5+j,none⟩=(hC (hs.getD i hd0))[j]?:=fun j hj=>by
   rw[Lib.cell_of_heap hh]
   have e:cur[i*5+j]?=(cur.toList.take (n*5))[i*5+j]?:=by
    rw[List.getElem?_take_of_lt (by omega)];simp
   rw[e,h4]
   have hd:hCs hs=hCs (hs.take i)++(hC (hs.getD i hd0)++hCs (hs.drop (i+1))):=by
    have e1:hs=hs.take i++(hs.getD i hd0::hs.drop (i+1)):=by
     rw[List.getD_eq_getElem?_getD,List.getElem?_eq_getElem (show i<hs.length by omega),Option.getD_some,<-List.drop_eq_getElem_cons,List.take_append_drop]
    conv=>lhs;rw[e1]
    unfold hCs;rw[List.flatMap_append,List.flatMap_cons]
   have hl:(hCs (hs.take i)).length=i*5:=by rw[hCs_len,List.length_take];congr 1;omega
   rw[hd,List.getElem?_append_right (by omega),hl,List.getElem?_append_left (by show i*5+j-i*5<5;omega)];congr 1;omega
  have hg:(hs.take m).getD i hd0=hs.getD i hd0:=by rw[List.getD_eq_getElem?_getD,List.getD_eq_getElem?_getD,List.getElem?_take_of_lt hi]
  rw[hg];exact⟨g,q.1,hc 0 (by decide),hc 1 (by decide),hc 2 (by decide),hc 3 (by decide),hc 4 (by decide)⟩
theorem own_set6 {w:World} {B KT KF n:Nat} {v x0 x1 x2 x3 y0 y1:Value} {xs:List Value} (h:w.ownsRow B 115 5 v n xs) (h1:∀ j,v.ownBlock=some j->j≠KT) (h2:∀ j,v.ownBlock=some j->j≠KF):(fill6 w KT KF x0 x1 x2 x3 y0 y1).ownsRow B 115 5 v n xs:=by
 refine⟨h.1,?_⟩;rcases h.2 with q | ⟨g,cap,cur,rfl,hb,hh,r⟩
 ·exact .inl q
 ·have e1:=h1 g rfl;have e2:=h2 g rfl;refine .inr ⟨g,cap,cur,rfl,hb,?_,r⟩;unfold fill6 fill4;rw[Below.heap_setCell _ _ _ _ e2,Below.heap_setCell _ _ _ _ e2,Below.heap_setCell _ _ _ _ e1,Below.heap_setCell _ _ _ _ e1,Below.heap_setCell _ _ _ _ e1,Below.heap_setCell _ _ _ _ e1];exact hh
structure B9 (w w9:World) (K2 K3 KT KF C d B:Nat) (ha:Option Addr) (hn hcap:Nat) (hs:List Hd) (k2:Int) (x2 a2:ByteArray) (ad2:Option Addr) (len2 cap2:Nat) (r:Tf):Prop where
 bl:Below w.heap.size w w9
 b2:Bx w9 K2 zT 26
 b3:Bx w9 K3 #[.int .i64 0,.int .i64 0] 34
 t:Bx w9 KT #[.int .i64 k2,.string x2,.string a2,.slice ad2 len2 cap2] 26
 f:Bx w9 KF #[.int .i64 r.2.1,.int .i64 r.2.2] 34
 tr:TrP C w9 d (.agg #[.int .i64 k2,.string x2,.string a2,.slice ad2 len2 cap2]) r.1
 own:w9.ownsRow B 115 5 (.slice ha hn hcap) hn (hCs hs)
 hT:KT<C
 hC:C<=w9.heap.size
theorem own_max {w:World} {B n:Nat} {v:Value} {xs:List Value} (h:w.ownsRow B 115 5 v n xs):n<=9223372036854775807:=by
 rcases h.2 with ⟨_,h2⟩ | ⟨_,_,_,_,_,_,h4,h5,_⟩
 ·omega
 ·have:maxLen=9223372036854775807:=rfl;omega
theorem grownB {w w':World} (h:Below w.heap.size w w'):w.grownBy w' none:=⟨h.os,h.tape,h.output,h.size,fun k hk _=>h.block k hk⟩
theorem kph_trans {Bs:Nat} {a:Option Addr} {A B C:World} (h:KpH Bs a A B) (k:KpH Bs a B C):KpH Bs a A C:=⟨k.1.trans h.1,fun g e=>(k.2 g e).trans (h.2 g e)⟩
theorem bx_grown {W W':World} {row:Option Nat} {K:Nat} {cs:Array Value} {t:TypeId} (h:Bx W K cs t) (hg:W.grownBy W' row) (hr:∀ r,row=some r->∃ o:Obj,W.heap[r]?=some o/\o.isCells=false):Bx W' K cs t:=by
 refine(hg.block K h.lt (fun e=> ?_)).trans h;obtain⟨o,ho,hc⟩:=hr K e.symm;rw[h]at ho;cases ho;cases hc
def Nrm {α:Type} (I:α->World->Prop) (F:α->Go.Act):Exit->Go.Act->World->Prop
 | .normal,a,w=>∃ p,I p w/\a=F p
 | _,_,_=>False
theorem wp_thenN {α:Type} {P:Program} {cd:Code} {Q:Exit->Go.Act->World->Prop} {a:Go.Act} {w:World} (F:α->Go.Act) (I:α->World->Prop) (h1:cd.wp P (Nrm I F) a w) (h2:∀ p w',I p w'->Q .normal (F p) w'):cd.wp P Q a w :=
 Code.wp_mono (fun e a w h=>by cases e<;>first | exact h.elim | (obtain⟨p,hi,rfl⟩:=h;exact h2 p w hi)) h1
theorem own_slice {w:World} {B:Nat} {e:TypeId} {k n:Nat} {v:Value} {xs:List Value} (h:w.ownsRow B e k v n xs):∃ a c,v=.slice a n c:=by
 rcases h.2 with ⟨rfl,rfl⟩ | ⟨g,cap,_,rfl,_⟩
 ·exact⟨_,_,rfl⟩
 ·exact⟨_,_,rfl⟩
theorem below_bad (d:Nat) (ar:Int) (c:Int) (x:Ln) (z:Int) (pa:Ln) (pt:Int) (a:Option Addr) (len cap:Nat) (rs:List Rw) (w:World) (hR:RowsIn w a len cap rs) (hlr:rs.length<=1048576) (hq:(hds (decide (ar=64)) (rs.length+1) c rs).2.2.1≠0) :
  Calls Tryz.prog 38 #[.int .i64 ar,rV c x z,.agg #[.string (mk pa),.int .i64 pt],.slice a len cap] w fun e w'=>TfD (d+1) (tr0,(hds (decide (ar=64)) (rs.length+1) c rs).2.2) w e w':=by
 obtain⟨q,HQ⟩:∃ q,Hid (q=(hds (decide (ar=64)) (rs.length+1) c rs)):=⟨_,rfl⟩
 have HHD:Hid (∀ w0,Below w.heap.size w w0->Calls Tryz.prog 68 #[.int .i64 ar,.agg #[.int .i64 c,.string (mk x),.int .i64 z,.string (mk pa),.int .i64 pt],.slice a len cap] w0 fun e w'=>HdRes q ((c,x,z),⟨pa,pt⟩) w0 e w'):=fun w0 hb=>by
  rw[HQ.out];exact heads_any ar ((c,x,z),⟨pa,pt⟩) a len cap rs w0 (hR.later hb) hlr
 have N4:Hid (_/\_/\_/\_/\_):=four_bx w #[.int .i64 c,.string (mk x),.int .i64 z] #[.string (mk pa),.int .i64 pt] zT #[.int .i64 0,.int .i64 0] 40 77 26 34;rw[<-HQ.out]at hq |-;clear hR;go_enter Tryz.func38,Tryz.ntmps38;go_wp2_with fail;change Calls _ _ _ ((((w.alloc (.cells #[.int .i64 c,.string (mk x),.int .i64 z] 40)).alloc (.cells #[.string (mk pa),.int .i64 pt] 77)).alloc (.cells zT 26)).alloc (.cells #[.int .i64 0,.int .i64 0] 34)) _;generalize (((w.alloc (.cells #[.int .i64 c,.string (mk x),.int .i64 z] 40)).alloc (.cells #[.string (mk pa),.int .i64 pt] 77)).alloc (.cells zT 26)).alloc (.cells #[.int .i64 0,.int .i64 0] 34)=W at N4 |-;obtain⟨K3,hK3⟩:∃ K,K=w.heap.size+1+1+1:=⟨_,rfl⟩;obtain⟨K2,hK2⟩:∃ K,K=w.heap.size+1+1:=⟨_,rfl⟩;obtain⟨K1,hK1⟩:∃ K,K=w.heap.size+1:=⟨_,rfl⟩;obtain⟨K0,hK0⟩:∃ K,K=w.heap.size:=⟨_,rfl⟩
 have HB:Hid (Below w.heap.size w W/\Bx W K0 #[.int .i64 c,.string (mk x),.int .i64 z] 40/\Bx W K1 #[.string (mk pa),.int .i64 pt] 77/\Bx W K2 zT 26/\Bx W K3 #[.int .i64 0,.int .i64 0] 34):=by
  rw[hK0,hK1,hK2,hK3];exact N4.out
 rw[<-hK3,<-hK2,<-hK1,<-hK0];have hK:w.heap.size<=K0/\K0<K1/\K1<K2/\K2<K3:=by omega
 have hwW:w.heap.size<=W.heap.size:=HB.out.1.size;clear N4 hK0 hK1 hK2 hK3;have HER:Hid (Calls Tryz.prog 68 #[.int .i64 ar,.agg #[.int .i64 c,.string (mk x),.int .i64 z,.string (mk pa),.int .i64 pt],.slice a len cap] W fun e w'=>e=.returned (.tuple #[.slice none 0 0,.slice none 0 0,.agg #[.int .i64 q.2.2.1,.int .i64 q.2.2.2]])/\Below W.heap.size W w'):=(HHD.out W HB.out.1).mono (fun e w' h=>⟨h.1 hq,h.2.2⟩);clear HHD HQ;obtain⟨q1,q2,qy,qz⟩:=q;replace hq:(qy != 0)=true:=by simpa using hq
 refine HER.out.mono ?_;rintro e w1 ⟨rfl,H1⟩
 have H2:Hid (∀ w2,w2=w1.alloc (.cells #[.int .i64 qy,.int .i64 qz] 34)->Below w.heap.size w w2/\Bx w2 K2 zT 26/\Bx w2 K3 #[.int .i64 0,.int .i64 0] 34/\Bx w2 w1.heap.size #[.int .i64 qy,.int .i64 qz] 34/\K3<w1.heap.size):=fun w2 e=>by
  subst e;have b:=H1.trans ((below_alloc w1 (.cells #[.int .i64 qy,.int .i64 qz] 34)).mono H1.size);exact⟨HB.out.1.trans (b.mono HB.out.1.size),HB.out.2.2.2.1.later b,HB.out.2.2.2.2.later b,Bx.new _ _ _,Nat.lt_of_lt_of_le HB.out.2.2.2.2.lt H1.size⟩
 clear H1 HB HER;go_upto_region 3 with fail
 have N2:=H2.out _ rfl;clear H2;generalize w1.alloc (.cells #[.int .i64 qy,.int .i64 qz] 34)=w2 at N2 |-;generalize w1.heap.size=KF at N2 |-;have HS:Hid (_/\_/\_/\_/\_):=N2;clear N2;obtain⟨i0,i1⟩:=HS.out.2.2.2.1.c2;obtain⟨d0,d1,d2,d3,d4,d5,z0,z1,z2,z3,z4,z5⟩:=c6_of HS.out.2.1 HS.out.2.2.1;have hn23:K2≠K3:=by omega
 have hn32:K3≠K2:=by omega
 have hn2:K2≠KF:=by have:=HS.out.2.2.2.2;omega
 have hn3:K3≠KF:=by have:=HS.out.2.2.2.2;omega
 have hn4:KF≠K2:=fun e=>hn2 e.symm
 have hn5:KF≠K3:=fun e=>hn3 e.symm
 have HF:Hid (_/\_/\_):=fill6_is HS.out.2.1 HS.out.2.2.1 hn23 HS.out.1 (by omega) (by omega) (.int .i64 0) (.string ⟨#[]⟩) (.string ⟨#[]⟩) (.slice none 0 0) (.int .i64 qy) (.int .i64 qz);clear HS;go_region
 all_goals
  go_wp2;change bodyPost _ _ _ _ _ (fill6 w2 K2 K3 (.int .i64 0) (.string ⟨#[]⟩) (.string ⟨#[]⟩) (.slice none 0 0) (.int .i64 qy) (.int .i64 qz)).drew;generalize fill6 w2 K2 K3 (.int .i64 0) (.string ⟨#[]⟩) (.string ⟨#[]⟩) (.slice none 0 0) (.int .i64 qy) (.int .i64 qz)=WF at HF |-;have j0:WF.drew.cell? ⟨K2,0,none⟩=_:=HF.out.2.1.cell 0;have j1:WF.drew.cell? ⟨K2,1,none⟩=_:=HF.out.2.1.cell 1;have j2:WF.drew.cell? ⟨K2,2,none⟩=_:=HF.out.2.1.cell 2;have j3:WF.drew.cell? ⟨K2,3,none⟩=_:=HF.out.2.1.cell 3;have j4:WF.drew.cell? ⟨K3,0,none⟩=_:=HF.out.2.2.cell 0;have j5:WF.drew.cell? ⟨K3,1,none⟩=_:=HF.out.2.2.cell 1;refine bodyPost_ret (v:=.tuple #[.agg #[.int .i64 0,.string ⟨#[]⟩,.string ⟨#[]⟩,.slice none 0 0],.agg #[.int .i64 qy,.int .i64 qz]]) (by simp[results,Tryz.results38,go_sem,j0,j1,j2,j3,j4,j5]) rfl ?_;exact⟨_,rfl,TrP.leaf 0 [] [] (by decide) (by decide) (by decide) d,HF.out.1.drew⟩
end Tre
end Go.Proofs.YtoaomiiakibanaaGreatDoor
