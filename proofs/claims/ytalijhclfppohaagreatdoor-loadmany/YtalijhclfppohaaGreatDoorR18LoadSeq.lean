/- . -/
import Derived.RangeFuncNested
import Derived.RangeFuncBound
import Derived.RangeFuncBox
import Derived.RangeFuncCalls
import Derived.RangeFuncLeaves
import Derived.Shelf.Abstract
import Derived.Shelf.RegionOpen
import Derived.WalkKit
import Derived.OwnWalkIn
import Derived.TacticsInMore
import Derived.LoopNIn
import Derived.LoopIn
import Derived.Test.YtalijhclfppohaaGreatDoorR17LoadLeaf
set_option linter.unusedSimpArgs false
set_option linter.unusedVariables false
set_option maxRecDepth 100000
namespace Go.Proofs.YtalijhclfppohaaGreatDoor
namespace Lod
open Utf Rws Pln Flw Tre
open Go.RowKit Go.Shelf
open Blk (Rw RwAt z3)
attribute [local go_sem] Oper.semAt_some
def doc1:Nat->List Rw->List (Int × List Rw)
 | 0,_=>[]
 | _+1,[]=>[]
 | n+1,m::t=>(m.2.2,ahd t)::doc1 n (lft t)
def docs (l:List Rw):List (Int × List Rw):=(if (ahd l).any ful=true then [(0,ahd l)]else [])++doc1 (l.length+1) (lft l)
theorem lft_len (l:List Rw):(lft l).length<=l.length:=(List.dropWhile_suffix _).length_le
theorem doc1_fuel:∀ (n m:Nat) (l:List Rw),l.length<n->l.length<m->doc1 n l=doc1 m l
 | 0,_,_,h,_=>absurd h (Nat.not_lt_zero _)
 | _+1,0,_,_,h=>absurd h (Nat.not_lt_zero _)
 | n+1,m+1,[],_,_=>rfl
 | n+1,m+1,r::t,h1,h2=>by
  have:=lft_len t;rw[List.length_cons]at h1 h2;rw[doc1,doc1,doc1_fuel n m (lft t) (by omega) (by omega)]
abbrev Dc:=Int × (Option Addr × Nat × Nat) × List Rw
abbrev Dx (w:World) (b:Nat) (P:List Rw->Prop):= { y:Dc // RowsB w b y.2.1.1 y.2.1.2.1 y.2.1.2.2 y.2.2/\P y.2.2 }
def dk {w:World} {b:Nat} {P:List Rw->Prop} (y:Dx w b P):Int × List Rw:=(y.1.1,y.1.2.2)
def KpD (Bs b:Nat) (W W':World):Prop:=W'.heap[Bs]?=W.heap[Bs]?/\W'.heap[b]?=W.heap[b]?/\W.heap.size<=W'.heap.size
theorem grown_of_below {w w':World} (h:Below w.heap.size w w'):w.grownBy w' none:=⟨h.os,h.tape,h.output,h.size,fun k hk _=>h.block k hk⟩
def sl (v:Value):Nat:=match v with | .slice _ n _=>n | _=>0
set_option maxHeartbeats 4000000 in
theorem docs1_in {P:List Rw->Prop} (n:Nat) (hn:1<=n) (l Bs b:Nat) (w:World) (a:Option Addr) (len cap:Nat) (rs:List Rw) (HPd:Hid (∀ d∈docs rs,P d.2)) (hrb:∀ r∈rs,r.2.1.length<=140737488351232) (J Jx:List (Dx w b P)->World->Prop) (W:World) (hJ:AbidesFrom W.heap.size J) (hBs:Bs<W.heap.size) (hbW:b<W.heap.size)
  (hY:∀ pre (x:Dx w b P) W1,J pre W1->pre.length<(docs rs).length->YieldAt Fence.wide (n-1) Tryz.prog l #[.int .i64 x.1.1,.slice x.1.2.1.1 x.1.2.1.2.1 x.1.2.1.2.2] W1 fun e W' =>
   (e=.returned (.bool true)/\J (pre++[x]) W'/\KpD Bs b W1 W')\/(e=.returned (.bool false)/\Jx (pre++[x]) W'))
  (hbx:W.cell? ⟨Bs,0,none⟩=some (.slice a len cap)) (hR:RowsB w b a len cap rs) (hk0:W.heap[b]?=w.heap[b]?) (hs0:w.heap.size<=W.heap.size) (h0:J [] W) :
  CallsIn Fence.wide n Tryz.prog 28 #[.func (.yield l) #[] #[],.pointer (some ⟨Bs,0,none⟩)] W fun e W'=>(∃ v,e=.returned v) /\
   ((∃ ys:List (Dx w b P),ys.map dk=docs rs/\J ys W')\/(∃ pre:List (Dx w b P),pre.map dk <+: docs rs/\Jx pre W')):=by
 have HCT:Hid (∀ a' n' c' rs' W1,RowsB w b a' n' c' rs'->W1.heap[b]?=w.heap[b]?->w.heap.size<=W1.heap.size->Calls Tryz.prog 29 #[.slice a' n' c'] W1 fun e w'=>∃ a1 n1 c1 a2 n2 c2,e=.returned (.tuple #[.slice a1 n1 c1,.slice a2 n2 c2])/\Hid (RowsB w b a1 n1 c1 (ahd rs')/\RowsB w b a2 n2 c2 (lft rs')/\Below W1.heap.size W1 w')):=fun a' n' c' rs' W1 hr hk hs =>
  (cutAtMarker_any w b a' n' c' rs' W1 hr (hr.kept hk hs)).mono (fun e w' g=>by
   obtain⟨a1,n1,c1,a2,n2,c2,h1,⟨h2,h3⟩,h4⟩:=g;exact⟨a1,n1,c1,a2,n2,c2,h1,⟨h2,h3,h4⟩⟩)
 have HCF:Hid (∀ a' n' c' rs' W1,RowsB w b a' n' c' rs'->(∀ r∈rs',r.2.1.length<=140737488351232)->W1.heap[b]?=w.heap[b]?->w.heap.size<=W1.heap.size->Calls Tryz.prog 30 #[.slice a' n' c',.func (.func 31) #[] #[]] W1 fun e w'=>e=.returned (.bool (rs'.any ful))/\Below W1.heap.size W1 w'):=fun a' n' c' rs' W1 hr hl hk hs =>
  containsFunc_any 31 (enters_of Tryz.func31 (by kernel_rfl) rfl) ful a' n' c' rs' W1 (hr.kept hk hs).1 (fun r hr w0=>isFull_any r.1 r.2.1 r.2.2 w0 (hl r hr))
 have HRW:Hid (RowsB w b a len cap rs):=hR;have HK0:Hid (W.heap[b]?=w.heap[b]?/\w.heap.size<=W.heap.size/\b<W.heap.size):=⟨hk0,hs0,hbW⟩;have HAB:Hid (∀ r∈ahd rs,r.2.1.length<=140737488351232):=fun r hr=>hrb r ((List.takeWhile_sublist _).subset hr)
 clear hR hk0 hs0 hrb;refine callsIn_of_wp Tryz.func28 rfl trivial ?_ rfl;simp only[Tryz.ntmps28,List.size_toArray,List.length_cons,List.length_nil,Nat.reduceAdd,Nat.reduceSub,Array.replicate_succ,Array.replicate_zero,List.push_toArray,List.append_toArray,List.nil_append,List.cons_append]
 have HB0:Hid (∀ W1,Below W.heap.size W W1->W1.heap[b]?=w.heap[b]?/\w.heap.size<=W1.heap.size/\b<W1.heap.size):=fun W1 hb=>by
  have h:=hb.size;have h1:=HK0.out;exact⟨(hb.block b h1.2.2).trans h1.1,by omega,by omega⟩
 have HDF:Hid (doc1 (rs.length+1) (lft rs)=doc1 ((lft rs).length+1) (lft rs)):=by
  have:=lft_len rs;exact doc1_fuel _ _ _ (by omega) (by omega)
 cases hq:(ahd rs).any ful
 ·have HE0:Hid (([]:List (Dx w b P)).map dk++doc1 ((lft rs).length+1) (lft rs)=docs rs):=by
   show _=docs rs;unfold docs;rw[hq,HDF.out];rfl
  refine wpIn_wide.2 ?_;go_wp2_with (first | (go_at_call 29;refine(HCT.out a len cap rs W HRW.out HK0.out.1 HK0.out.2.1).mono ?_;rintro e W1 ⟨a1,n1,c1,a2,n2,c2,rfl,H1⟩;have HK1:=HB0.out W1 H1.out.2.2;have HF:=HCF.out a1 n1 c1 (ahd rs) W1 H1.out.1 HAB.out HK1.1 HK1.2.1;rw[hq]at HF) | (go_at_call 30;refine HF.mono ?_;rintro e W2 ⟨rfl,h2⟩));refine(wpIn_wide (n:=n)).1 ?_;have HB1:Hid (Below W.heap.size W W1):=H1.out.2.2;have HL0:Hid (RowsB w b a2 n2 c2 (lft rs)):=H1.out.2.1;have hJZ:=hJ _ _ _ none (hJ _ _ _ none h0 (grown_of_below HB1.out) (fun r e=>by cases e)) (grown_of_below h2) (fun r e=>by cases e)
  have HKZ:Hid (W2.heap[b]?=w.heap[b]?/\w.heap.size<=W2.heap.size/\b<W2.heap.size):=by
   have h:=h2.size;exact⟨(h2.block b HK1.2.2).trans HK1.1,by omega,by omega⟩
  gi_loopw [3,4] (fun u3 u4 wr=>∃ (pre:List (Dx w b P)) (a2:Option Addr) (n2 c2:Nat) (lf:List Rw),u4=.slice a2 n2 c2/\Hid (RowsB w b a2 n2 c2 lf)/\Hid (pre.map dk++doc1 (lf.length+1) lf=docs rs)/\Hid (wr.heap[b]?=w.heap[b]?/\w.heap.size<=wr.heap.size/\b<wr.heap.size)/\J pre wr) (fun _ u4 _=>sl u4)
  case atStart=>exact⟨[],a2,n2,c2,lft rs,rfl,HL0,HE0,HKZ,hJZ⟩
  case round =>
   obtain⟨pre,a3,n3,c3,lf,rfl,HR3,HE3,HK3,hJ3⟩:=hrel;have hn3:n3=lf.length:=HR3.out.1.1.1
   cases lf with
   | nil =>
    have hz:n3=0:=hn3;subst hz
    have HE4:Hid (pre.map dk=docs rs):=by
     have:=HE3.out;rw[show doc1 (([]:List Rw).length+1) []=[]from rfl,List.append_nil]at this;exact this
    clear hn3 HR3 HK3 HE3;cases a3
    all_goals
     gi_wp2
     go_end0;exact⟨⟨_,rfl⟩,.inl ⟨pre,HE4.out,hJ3⟩⟩
   | cons m t =>
    have hpos:0<n3:=by rw[hn3,List.length_cons];omega
    obtain⟨off,rfl⟩:=HR3.out.2 hpos;have hcl:n3<=c3:=HR3.out.1.2.1;have hcm:c3<=9223372036854775807:=HR3.out.1.2.2.1
    have hx2:wr.cell? ⟨b,off+2,none⟩=some (.int .i64 m.2.2):=by
     obtain⟨b',off',had,hb,hc⟩:=(HR3.out.kept HK3.out.1 HK3.out.2.1).1.1.2 hpos;cases had;have:=(hc 0 hpos).2.2;simpa using this
    obtain⟨SA,hSA,HD⟩:∃ SA:Addr,(if c3=1 then some (⟨b,off,none⟩:Addr)else some ⟨b,off+3,none⟩)=some SA/\Hid (RowsB w b (some SA) (n3-1) (c3-1) t):=by
     have h:=HR3.out.drop 1 (by omega);by_cases e:c3=1
     ·rw[if_pos e]at h;exact⟨_,if_pos e,h⟩
     ·rw[if_neg e,Option.map_some,Blk.add_plain]at h;exact⟨_,if_neg e,h⟩
    have HDC:Hid (doc1 ((m::t).length+1) (m::t)=(m.2.2,ahd t)::doc1 ((lft t).length+1) (lft t)):=by
     have:=lft_len t;rw[List.length_cons,doc1,doc1_fuel (t.length+1) ((lft t).length+1) (lft t) (by omega) (by omega)];exact rfl
    have hlen:pre.length<(docs rs).length:=by
     rw[<-HE3.out,HDC.out,List.length_append,List.length_map,List.length_cons];omega
    have HLT:Hid ((lft t).length<n3):=by
     have:=lft_len t;show _<_;rw[hn3,List.length_cons];omega
    have hpt:Hid (P (ahd t)):=HPd.out (m.2.2,ahd t) (by rw[<-HE3.out,HDC.out];simp);clear hn3;generalize hml:m.2.2=ml at hx2;have h1c:(1:Nat)<=c3:=by omega
    gi_wp2_with (first | (refine⟨trivial,?_⟩;gi_at_call 29;refine(callsIn_wide.2 (HCT.out (some SA) (n3-1) (c3-1) t wr HD.out HK3.out.1 HK3.out.2.1)).mono ?_;rintro e W4 ⟨a5,n5,c5,a6,n6,c6,rfl,H5⟩;have hJ4:=hJ _ _ _ none hJ3 (grown_of_below H5.out.2.2) (fun r e=>by cases e);obtain⟨fn,tmps,assign,body,hy,hR⟩:=hY pre ⟨(ml,(a5,n5,c5),ahd t),⟨H5.out.1,hpt.out⟩⟩ W4 hJ4 hlen;dsimp only at hy))
    refine hR.mono ?_;rintro e W5 (⟨rfl,hJ5,hk5⟩ | ⟨rfl,hJx5⟩)
    ·have HK5:Hid (W5.heap[b]?=w.heap[b]?/\w.heap.size<=W5.heap.size/\b<W5.heap.size):=by
      have h4:=H5.out.2.2;have h1:=HK3.out;have h2:=h4.size;have h3:=hk5.2.2;exact⟨hk5.2.1.trans ((h4.block b h1.2.2).trans h1.1),by omega,by omega⟩
     gi_wp2
     go_roundw
     case rel =>
      refine⟨pre++[⟨(ml,(a5,n5,c5),ahd t),⟨H5.out.1,hpt.out⟩⟩],a6,n6,c6,lft t,rfl,H5.out.2.1,?_,HK5,hJ5⟩;show _=_;rw[<-HE3.out,HDC.out,List.map_append,List.append_assoc,<-hml];rfl
     case measure =>
      have h1:n6=(lft t).length:=H5.out.2.1.1.1.1;have h2:=HLT.out;simp only[sl];omega
    ·gi_wp2
     refine bodyPost_ret (results_none rfl _ _ _) rfl ?_;refine⟨⟨_,rfl⟩,.inr ⟨pre++[⟨(ml,(a5,n5,c5),ahd t),⟨H5.out.1,hpt.out⟩⟩],?_,hJx5⟩⟩;rw[<-HE3.out,HDC.out,List.map_append,<-hml];exact⟨doc1 ((lft t).length+1) (lft t),by rw[List.append_assoc];rfl⟩
 ·have HQ:Hid (docs rs=(0,ahd rs)::doc1 ((lft rs).length+1) (lft rs)):=by
   show docs rs=_;unfold docs;rw[hq,HDF.out];rfl
  have hp0:Hid (P (ahd rs)):=HPd.out (0,ahd rs) (by rw[HQ.out];simp)
  gi_wp2_with (first | (refine⟨trivial,?_⟩;gi_at_call 29;refine(callsIn_wide.2 (HCT.out a len cap rs W HRW.out HK0.out.1 HK0.out.2.1)).mono ?_;rintro e W1 ⟨a1,n1,c1,a2,n2,c2,rfl,H1⟩;have HK1:=HB0.out W1 H1.out.2.2;have HF:=HCF.out a1 n1 c1 (ahd rs) W1 H1.out.1 HAB.out HK1.1 HK1.2.1;rw[hq]at HF) | (refine⟨trivial,?_⟩;gi_at_call 30;refine(callsIn_wide.2 HF).mono ?_;rintro e W2 ⟨rfl,h2⟩;have hJ2:=hJ _ _ _ none (hJ _ _ _ none h0 (grown_of_below H1.out.2.2) (fun r e=>by cases e)) (grown_of_below h2) (fun r e=>by cases e);obtain⟨fn,tmps,assign,body,hy,hR⟩:=hY [] ⟨(0,(a1,n1,c1),ahd rs),⟨H1.out.1,hp0.out⟩⟩ W2 hJ2 (by rw[HQ.out];simp);dsimp only at hy))
  refine hR.mono ?_;rintro e WZ (⟨rfl,hJZ,hkz⟩ | ⟨rfl,hJxz⟩)
  case inr =>
   gi_wp2
   refine bodyPost_ret (results_none rfl _ _ _) rfl ?_;exact⟨⟨_,rfl⟩,.inr ⟨[⟨(0,(a1,n1,c1),ahd rs),⟨H1.out.1,hp0.out⟩⟩],by rw[HQ.out];exact⟨_,rfl⟩,hJxz⟩⟩
  have HE0:Hid (([⟨(0,(a1,n1,c1),ahd rs),⟨H1.out.1,hp0.out⟩⟩]:List (Dx w b P)).map dk++doc1 ((lft rs).length+1) (lft rs)=docs rs):=by
   show _=docs rs;rw[HQ.out];rfl
  have HKZ:Hid (WZ.heap[b]?=w.heap[b]?/\w.heap.size<=WZ.heap.size/\b<WZ.heap.size):=by
   have h:=h2.size;have h3:=hkz.2.2;exact⟨hkz.2.1.trans ((h2.block b HK1.2.2).trans HK1.1),by omega,by omega⟩
  have HL0:Hid (RowsB w b a2 n2 c2 (lft rs)):=H1.out.2.1
  gi_wp2
  gi_loopw [3,4] (fun u3 u4 wr=>∃ (pre:List (Dx w b P)) (a2:Option Addr) (n2 c2:Nat) (lf:List Rw),u4=.slice a2 n2 c2/\Hid (RowsB w b a2 n2 c2 lf)/\Hid (pre.map dk++doc1 (lf.length+1) lf=docs rs)/\Hid (wr.heap[b]?=w.heap[b]?/\w.heap.size<=wr.heap.size/\b<wr.heap.size)/\J pre wr) (fun _ u4 _=>sl u4)
  case atStart=>exact⟨[⟨(0,(a1,n1,c1),ahd rs),⟨H1.out.1,hp0.out⟩⟩],a2,n2,c2,lft rs,rfl,HL0,HE0,HKZ,hJZ⟩
  case round =>
   obtain⟨pre,a3,n3,c3,lf,rfl,HR3,HE3,HK3,hJ3⟩:=hrel;have hn3:n3=lf.length:=HR3.out.1.1.1
   cases lf with
   | nil =>
    have hz:n3=0:=hn3;subst hz
    have HE4:Hid (pre.map dk=docs rs):=by
     have:=HE3.out;rw[show doc1 (([]:List Rw).length+1) []=[]from rfl,List.append_nil]at this;exact this
    clear hn3 HR3 HK3 HE3;cases a3
    all_goals
     gi_wp2
     go_end0;exact⟨⟨_,rfl⟩,.inl ⟨pre,HE4.out,hJ3⟩⟩
   | cons m t =>
    have hpos:0<n3:=by rw[hn3,List.length_cons];omega
    obtain⟨off,rfl⟩:=HR3.out.2 hpos;have hcl:n3<=c3:=HR3.out.1.2.1;have hcm:c3<=9223372036854775807:=HR3.out.1.2.2.1
    have hx2:wr.cell? ⟨b,off+2,none⟩=some (.int .i64 m.2.2):=by
     obtain⟨b',off',had,hb,hc⟩:=(HR3.out.kept HK3.out.1 HK3.out.2.1).1.1.2 hpos;cases had;have:=(hc 0 hpos).2.2;simpa using this
    obtain⟨SA,hSA,HD⟩:∃ SA:Addr,(if c3=1 then some (⟨b,off,none⟩:Addr)else some ⟨b,off+3,none⟩)=some SA/\Hid (RowsB w b (some SA) (n3-1) (c3-1) t):=by
     have h:=HR3.out.drop 1 (by omega);by_cases e:c3=1
     ·rw[if_pos e]at h;exact⟨_,if_pos e,h⟩
     ·rw[if_neg e,Option.map_some,Blk.add_plain]at h;exact⟨_,if_neg e,h⟩
    have HDC:Hid (doc1 ((m::t).length+1) (m::t)=(m.2.2,ahd t)::doc1 ((lft t).length+1) (lft t)):=by
     have:=lft_len t;rw[List.length_cons,doc1,doc1_fuel (t.length+1) ((lft t).length+1) (lft t) (by omega) (by omega)];exact rfl
    have hlen:pre.length<(docs rs).length:=by
     rw[<-HE3.out,HDC.out,List.length_append,List.length_map,List.length_cons];omega
    have HLT:Hid ((lft t).length<n3):=by
     have:=lft_len t;show _<_;rw[hn3,List.length_cons];omega
    have hpt:Hid (P (ahd t)):=HPd.out (m.2.2,ahd t) (by rw[<-HE3.out,HDC.out];simp);clear hn3;generalize hml:m.2.2=ml at hx2;have h1c:(1:Nat)<=c3:=by omega
    gi_wp2_with (first | (refine⟨trivial,?_⟩;gi_at_call 29;refine(callsIn_wide.2 (HCT.out (some SA) (n3-1) (c3-1) t wr HD.out HK3.out.1 HK3.out.2.1)).mono ?_;rintro e W4 ⟨a5,n5,c5,a6,n6,c6,rfl,H5⟩;have hJ4:=hJ _ _ _ none hJ3 (grown_of_below H5.out.2.2) (fun r e=>by cases e);obtain⟨fn,tmps,assign,body,hy,hR⟩:=hY pre ⟨(ml,(a5,n5,c5),ahd t),⟨H5.out.1,hpt.out⟩⟩ W4 hJ4 hlen;dsimp only at hy))
    refine hR.mono ?_;rintro e W5 (⟨rfl,hJ5,hk5⟩ | ⟨rfl,hJx5⟩)
    ·have HK5:Hid (W5.heap[b]?=w.heap[b]?/\w.heap.size<=W5.heap.size/\b<W5.heap.size):=by
      have h4:=H5.out.2.2;have h1:=HK3.out;have h2:=h4.size;have h3:=hk5.2.2;exact⟨hk5.2.1.trans ((h4.block b h1.2.2).trans h1.1),by omega,by omega⟩
     gi_wp2
     go_roundw
     case rel =>
      refine⟨pre++[⟨(ml,(a5,n5,c5),ahd t),⟨H5.out.1,hpt.out⟩⟩],a6,n6,c6,lft t,rfl,H5.out.2.1,?_,HK5,hJ5⟩;show _=_;rw[<-HE3.out,HDC.out,List.map_append,List.append_assoc,<-hml];rfl
     case measure =>
      have h1:n6=(lft t).length:=H5.out.2.1.1.1.1;have h2:=HLT.out;simp only[sl];omega
    ·gi_wp2
     refine bodyPost_ret (results_none rfl _ _ _) rfl ?_;refine⟨⟨_,rfl⟩,.inr ⟨pre++[⟨(ml,(a5,n5,c5),ahd t),⟨H5.out.1,hpt.out⟩⟩],?_,hJx5⟩⟩;rw[<-HE3.out,HDC.out,List.map_append,<-hml];exact⟨doc1 ((lft t).length+1) (lft t),by rw[List.append_assoc];rfl⟩
theorem documents_in (a:Option Addr) (len cap:Nat) (n:Nat) (w:World) :
  CallsIn Fence.wide n Tryz.prog 18 #[.slice a len cap] w fun e w'=>e=.returned (.func (.func 28) #[] #[.pointer (some ⟨w.heap.size,0,none⟩)])/\w'=w.alloc (.cells #[.slice a len cap] 22):=by
 refine callsIn_of_wp Tryz.func18 rfl trivial ?_ rfl;simp only[Tryz.ntmps18,List.size_toArray,List.length_cons,List.length_nil,Nat.reduceAdd,Nat.reduceSub,Array.replicate_succ,Array.replicate_zero,List.push_toArray,List.append_toArray,List.nil_append,List.cons_append]
 gi_wp2
 go_ret;exact⟨rfl,rfl⟩
theorem docs_stops {P:List Rw->Prop} (n:Nat) (hn:1<=n) (Bs b:Nat) (a:Option Addr) (len cap:Nat) (rs:List Rw) (HPd:∀ d∈docs rs,P d.2) (hrb:∀ r∈rs,r.2.1.length<=140737488351232) (w:World) (hB:Bs<w.heap.size) (hb:b<w.heap.size) (hbx:w.cell? ⟨Bs,0,none⟩=some (.slice a len cap)) (hR:RowsB w b a len cap rs) :
  SeqStopsK Fence.wide n Tryz.prog 28 #[.pointer (some ⟨Bs,0,none⟩)] (fun x:Dx w b P=>#[Value.int .i64 x.1.1,Value.slice x.1.2.1.1 x.1.2.1.2.1 x.1.2.1.2.2]) (KpD Bs b) (fun ys=>ys.map dk=docs rs) (fun pre=>pre.map dk <+: docs rs) (docs rs).length w:=fun l J Jx W hW hJ _ hY h0 =>
 docs1_in n hn l Bs b w a len cap rs HPd hrb J Jx W hJ (by have:=hW.size;omega) (by have:=hW.size;omega) hY ((hW.cell (p:=⟨Bs,0,none⟩) hB).trans hbx) hR (hW.block b hb) hW.size h0
end Lod
end Go.Proofs.YtalijhclfppohaaGreatDoor
