/- . -/
import Derived.Test.YtidhpmcmbooaoaaGreatDoorR39TreeHds
import Derived.Test.YtidhpmcmbooaoaaGreatDoorR38FlowAllow
import Derived.Test.YtidhpmcmbooaoaaGreatDoorR36BlockFold
set_option linter.unusedSimpArgs false
set_option linter.unusedVariables false
set_option maxRecDepth 100000
namespace Go.Proofs.YtidhpmcmbooaoaaGreatDoor
namespace Tre
open Utf Rws Pln Flw
open Go.RowKit Go.Shelf
open Blk (Rw RwAt z3)
theorem samePp_nil {p:Pp} (h:samePp p ⟨[],0⟩=true):p=⟨[],0⟩:=samePp_eq h
theorem onRows_all (h:Hd) (t:Tr) (ad:Option Addr) (len cap:Nat) (w:World):Calls Tryz.prog 22 #[.agg #[.string (mk h.2.anc),.int .i64 h.2.tag],.agg #[.int .i64 t.kind,.string (mk t.text),.string (mk t.anc),.slice ad len cap],.agg #[.int .i64 h.1.1,.string (mk h.1.2.1),.int .i64 h.1.2.2]] w fun e w' =>
  (∃ ad' len' cap',e=.returned (.tuple #[.agg #[.int .i64 (orM h t).1.kind,.string (mk (orM h t).1.text),.string (mk (orM h t).1.anc),.slice ad' len' cap'],.agg #[.int .i64 (orM h t).2.1,.int .i64 (orM h t).2.2]]) /\
   Hid ((ad'=ad/\len'=len/\cap'=cap/\(orM h t).1.kids=t.kids/\(orM h t).1.kind=t.kind/\(orM h t).1.text=t.text/\((orM h t).1.anc=t.anc\/(orM h t).1.anc=h.2.anc))\/(ad'=none/\len'=0/\cap'=0/\(orM h t).1=tr0)))/\Below w.heap.size w w':=by
 obtain⟨⟨hc,hx,hz⟩,p⟩:=h;unfold orM;dsimp only;cases hs:samePp p ⟨[],0⟩
 ·rw[if_neg (by simp)];cases ho:orB p t.kind t.anc
  ·rw[if_neg (by simp)];cases hn:onB p t.kind
   ·rw[if_neg (by simp)];refine(onRows_yes p t.kind t.text t.anc ad len cap hc hx hz w hs ho hn).mono ?_;rintro e w' ⟨rfl,hb⟩;exact⟨⟨ad,len,cap,rfl,.inl ⟨rfl,rfl,rfl,rfl,rfl,rfl,.inr rfl⟩⟩,hb⟩
   ·rw[if_pos rfl];refine(onRows_no p t.kind t.text t.anc ad len cap hc hx hz w hs ho hn).mono ?_;rintro e w' ⟨rfl,hb⟩;exact⟨⟨none,0,0,rfl,.inr ⟨rfl,rfl,rfl,rfl⟩⟩,hb⟩
  ·rw[if_pos rfl];refine(onRows_bad p t.kind t.text t.anc ad len cap hc hx hz w hs ho).mono ?_;rintro e w' ⟨rfl,hb⟩;exact⟨⟨none,0,0,rfl,.inr ⟨rfl,rfl,rfl,rfl⟩⟩,hb⟩
 ·have e:=samePp_nil hs;subst e;rw[if_pos rfl];refine(onRows_none t.kind t.text t.anc ad len cap hc hx hz w).mono ?_;rintro e w' ⟨rfl,hb⟩;exact⟨⟨ad,len,cap,rfl,.inl ⟨rfl,rfl,rfl,rfl,rfl,rfl,.inl rfl⟩⟩,hb⟩
theorem onNothing_all (h:Hd) (w:World):Calls Tryz.prog 20 #[.agg #[.string (mk h.2.anc),.int .i64 h.2.tag],.agg #[.int .i64 h.1.1,.string (mk h.1.2.1),.int .i64 h.1.2.2]] w fun e w' =>
  e=.returned (.tuple #[.agg #[.int .i64 (noM h).1.kind,.string (mk (noM h).1.text),.string (mk (noM h).1.anc),.slice none 0 0],.agg #[.int .i64 (noM h).2.1,.int .i64 (noM h).2.2]])/\Below w.heap.size w w':=by
 obtain⟨⟨hc,hx,hz⟩,p⟩:=h;unfold noM;dsimp only;cases hn:onB p (nuK p)
 ·rw[if_neg (by simp)];exact onNothing_yes p hc hx hz w hn
 ·rw[if_pos rfl];exact onNothing_no p hc hx hz w hn
def cur (pre:List (Nat × Hd)) (r:Tf):Tf:=pre.foldl (fun r x=>orM x.2 r.1) r
theorem cur_snoc (pre:List (Nat × Hd)) (x:Nat × Hd) (r:Tf):cur (pre++[x]) r=orM x.2 (cur pre r).1:=by simp[cur]
def okP (pre:List (Nat × Hd)) (r:Tf):Prop:=∀ q x s,pre=q++x::s->(cur q r).2.1=0
theorem okP_nil (r:Tf):okP [] r:=fun q x s h=>by cases q<;>cases h
theorem okP_snoc {pre:List (Nat × Hd)} {r:Tf} (h:okP pre r) (h0:(cur pre r).2.1=0) (x:Nat × Hd):okP (pre++[x]) r:=by
 intro q y s e;rcases List.eq_nil_or_concat s with rfl | ⟨s',z,rfl⟩
 ·have e2:pre=q/\x=y:=by
   have:=List.append_inj' (s₁:=pre) (s₂:=q) e rfl;exact⟨this.1,by simpa using this.2⟩
  rw[<-e2.1];exact h0
 ·rw[List.concat_eq_append,<-List.cons_append,<-List.append_assoc]at e;exact h q y s' (List.append_inj' e rfl).1
theorem bak_app:∀ (pre:List (Nat × Hd)) (r:Tf) (rest:List Hd),okP pre r->bak (pre.map (·.2)++rest) r=bak rest (cur pre r)
 | [],r,rest,_=>rfl
 | x::pre,r,rest,h=>by
  have h0:r.2.1=0:=h [] x pre rfl;rw[List.map_cons,List.cons_append,bak,if_neg (by simp[h0])];exact bak_app pre (orM x.2 r.1) rest (fun q y s e=>h (x::q) y s (by rw[e];rfl))
structure Be (W0 W:World) (KT KF C d:Nat) (A:Prop) (r:Tf):Prop where
 os:W.os=W0.os
 tape:W.tape=W0.tape
 out:W.output=W0.output
 size:W0.heap.size<=W.heap.size
 keep:∀ j,j<W0.heap.size->j≠KT->j≠KF->W.heap[j]?=W0.heap[j]?
 t:∃ ad len cap,Bx W KT #[.int .i64 r.1.kind,.string (mk r.1.text),.string (mk r.1.anc),.slice ad len cap] 24/\(A->TrQ (fun g=>C<=g/\g<W0.heap.size) W d (.agg #[.int .i64 r.1.kind,.string (mk r.1.text),.string (mk r.1.anc),.slice ad len cap]) r.1)
 f:Bx W KF #[.int .i64 r.2.1,.int .i64 r.2.2] 33
variable {W0 W W':World} {KT KF C d:Nat} {A A2:Prop} {r:Tf}
theorem Be.grown (h:Be W0 W KT KF C d A r) (hs:W.heap.size<=W'.heap.size) (ho:W'.os=W.os) (ht:W'.tape=W.tape) (hu:W'.output=W.output) (hk:∀ j,j<W0.heap.size->W'.heap[j]?=W.heap[j]?) (hKT:KT<W0.heap.size) (hKF:KF<W0.heap.size):Be W0 W' KT KF C d A r:=by
 refine⟨ho.trans h.os,ht.trans h.tape,hu.trans h.out,Nat.le_trans h.size hs,fun j hj h1 h2=>(hk j hj).trans (h.keep j hj h1 h2),?_,(hk KF hKF).trans h.f⟩;obtain⟨ad,len,cap,h1,h2⟩:=h.t;exact⟨ad,len,cap,(hk KT hKT).trans h1,fun ha=>(h2 ha).keep hs (fun j hj _=>hk j hj.2)⟩
theorem be_own (W0:World) (KT KF C d:Nat) (hKT:KT<W0.heap.size) (hKF:KF<W0.heap.size) (G:List (Nat × Hd)->Prop) (r:List (Nat × Hd)->Tf) (P:List (Nat × Hd)->Prop):OwnFrom W0.heap.size (fun pre W=>Be W0 W KT KF C d (G pre) (r pre)/\P pre):=by
 intro pre A B row h hg hr;refine⟨h.1.grown hg.size hg.os hg.tape hg.output (fun j hj=>hg.block j (Nat.lt_of_lt_of_le hj h.1.size) (fun e=> ?_)) hKT hKF,h.2⟩;have:=(hr j e.symm).1;omega
set_option maxHeartbeats 2000000 in
theorem be_set (h:Be W0 W KT KF C d A r) (hne:KT≠KF) (hKT:KT<C) (hKF:KF<C) (hTl:KT<W0.heap.size) (hFl:KF<W0.heap.size) (r2:Tf) (ad:Option Addr) (len cap:Nat)
  (hq:A2->TrQ (fun g=>C<=g/\g<W0.heap.size) W d (.agg #[.int .i64 r2.1.kind,.string (mk r2.1.text),.string (mk r2.1.anc),.slice ad len cap]) r2.1) :
  Be W0 (fill6 W KT KF (.int .i64 r2.1.kind) (.string (mk r2.1.text)) (.string (mk r2.1.anc)) (.slice ad len cap) (.int .i64 r2.2.1) (.int .i64 r2.2.2)) KT KF C d A2 r2:=by
 obtain⟨ad0,len0,cap0,hb0,_⟩:=h.t
 have hk:∀ j,j≠KT->j≠KF->(fill6 W KT KF (.int .i64 r2.1.kind) (.string (mk r2.1.text)) (.string (mk r2.1.anc)) (.slice ad len cap) (.int .i64 r2.2.1) (.int .i64 r2.2.2)).heap[j]?=W.heap[j]?:=fun j h1 h2=>by
  unfold fill6 fill4;rw[Below.heap_setCell _ _ _ _ h2,Below.heap_setCell _ _ _ _ h2,Below.heap_setCell _ _ _ _ h1,Below.heap_setCell _ _ _ _ h1,Below.heap_setCell _ _ _ _ h1,Below.heap_setCell _ _ _ _ h1]
 have hs:(fill6 W KT KF (.int .i64 r2.1.kind) (.string (mk r2.1.text)) (.string (mk r2.1.anc)) (.slice ad len cap) (.int .i64 r2.2.1) (.int .i64 r2.2.2)).heap.size=W.heap.size:=by
  unfold fill6 fill4;simp only[World.size_setCell]
 have hbl:Below 0 W (fill6 W KT KF (.int .i64 r2.1.kind) (.string (mk r2.1.text)) (.string (mk r2.1.anc)) (.slice ad len cap) (.int .i64 r2.2.1) (.int .i64 r2.2.2)):=by
  unfold fill6 fill4;exact((((((Below.refl 0 W).setCell (Nat.zero_le _) _).setCell (Nat.zero_le _) _).setCell (Nat.zero_le _) _).setCell (Nat.zero_le _) _).setCell (Nat.zero_le _) _).setCell (Nat.zero_le _) _
 refine⟨hbl.os.trans h.os,hbl.tape.trans h.tape,hbl.output.trans h.out,by rw[hs];exact h.size,fun j hj h1 h2=>(hk j h1 h2).trans (h.keep j hj h1 h2),⟨ad,len,cap,?_,fun ha=>(hq ha).keep (Nat.le_of_eq hs.symm) (fun j hj _=>hk j (by have:=hj.1;omega) (by have:=hj.1;omega))⟩,?_⟩
 ·unfold fill6 fill4;exact((((((hb0.set 0 _).set 1 _).set 2 _).set 3 _).other hne _ _).other hne _ _)
 ·unfold fill6 fill4;have hn2:KF≠KT:=fun e=>hne e.symm
  exact(((((h.f.other hn2 _ _).other hn2 _ _).other hn2 _ _).other hn2 _ _).set 0 _).set 1 _
theorem trq_anc {P:Nat->Prop} {ad:Option Addr} {len cap:Nat} {t t':Tr} (h:TrQ P W d (.agg #[.int .i64 t.kind,.string (mk t.text),.string (mk t.anc),.slice ad len cap]) t) (hk:t'.kids=t.kids) (h1:t'.kind=t.kind) (h2:t'.text=t.text) (hl:t'.anc.length<=9223372036854775807) :
  TrQ P W d (.agg #[.int .i64 t'.kind,.string (mk t'.text),.string (mk t'.anc),.slice ad len cap]) t':=by
 cases d with
 | zero=>exact h.elim
 | succ d =>
  obtain⟨ad2,len2,cap2,e,hl2,hc,hm,hz,hkk⟩:=h;simp only[Value.agg.injEq,Array.mk.injEq,List.cons.injEq,and_true,true_and,Value.slice.injEq]at e;obtain⟨rfl,rfl,rfl⟩:=e;refine⟨ad,len,cap,rfl,by rw[hk];exact hl2,hc,hm,⟨by rw[h1];exact hz.1,by rw[h1];exact hz.2.1,by rw[h2];exact hz.2.2.1,hl⟩,fun hp=> ?_⟩;obtain⟨g,off,q1,q2,q3,q4⟩:=hkk hp;exact⟨g,off,q1,q2,q3,fun i hi=>by rw[hk];exact q4 i hi⟩
theorem trq_zero {P:Nat->Prop} (hd:1<=d):TrQ P W d (.agg #[.int .i64 tr0.kind,.string (mk tr0.text),.string (mk tr0.anc),.slice none 0 0]) tr0:=by
 obtain⟨e,rfl⟩:∃ e,d=e+1:=⟨d-1,by omega⟩;exact⟨none,0,0,rfl,rfl,Nat.le_refl _,Nat.zero_le _,⟨by decide,by decide,by decide,by decide⟩,fun h=>absurd h (by decide)⟩
theorem trq_ancl {P:Nat->Prop} {v:Value} {t:Tr} (h:TrQ P W d v t):t.anc.length<=9223372036854775807:=by
 cases d with
 | zero=>exact h.elim
 | succ d =>
  obtain⟨_,_,_,_,_,_,_,hz,_⟩:=h;exact hz.2.2.2
def ancs (pre:List (Nat × Hd)):Prop:=∀ y∈pre,y.2.2.anc.length<=9223372036854775807
end Tre
namespace Tre
open Utf Rws Pln Flw
open Go.RowKit
set_option maxHeartbeats 4000000
variable {w:World}
theorem item_mean (d:Nat) (ar:Int) (c:Int) (x:Ln) (z:Int) (a:Option Addr) (len cap:Nat) (hx:x.length<=140737488351232) (hxs:(itR x).length<=140737488351232) (hT:Tb w) (hi:isIt x=true) (hni:isIt (itR x)=false) (hne:isEn (itR x)=false) (R:Tr × Int × Int)
  (HME:Hid (∀ w0,Below w.heap.size w w0->Calls Tryz.prog 39 #[.int .i64 ar,.agg #[.int .i64 c,.string (mk x),.int .i64 z],.string (mk (itR x)),.slice a len cap] w0 fun e w'=>TfD d R w0 e w')) :
  Calls Tryz.prog 36 #[.int .i64 ar,rV c x z,.slice a len cap] w fun e w'=>PaD d [R.1] R.2.1 R.2.2 w e w':=by
 have HI:Hid (∀ w0,Calls Tryz.prog 53 #[.string (mk x)] w0 fun e w'=>e=.returned (.tuple #[.string (mk (itR x)),.int .i64 (itN x:Int),.bool true])/\w0=w'):=fun w0=>by
  have h:=item0_any x w0 (by omega);rw[hi]at h;exact h
 have HII:Hid (∀ w0,Calls Tryz.prog 34 #[.string (mk (itR x))] w0 fun e w'=>e=.returned (.bool false)/\w0=w'):=fun w0=>by
  have h:=isItem_any (itR x) w0 (by omega);rw[hni]at h;exact h
 have HIE:Hid (∀ w0,Tb w0->Calls Tryz.prog 37 #[.string (mk (itR x))] w0 fun e w'=>e=.returned (.bool false)/\Below w0.heap.size w0 w'):=fun w0 ht=>by
  have h:=isEntry_any (itR x) w0 (by omega) ht;rw[hne]at h;exact h
 have HTb:Hid (Tb w):=hT;clear hT hi hni hne;generalize itR x=aR at *;generalize itN x=aN at *;have N2:Hid (_/\_/\_):=two_new w #[.int .i64 c,.string (mk x),.int .i64 z] #[.int .i64 0,.int .i64 0] 45 33;go_enter Tryz.func36,Tryz.ntmps36;go_wp2_with fail;change Calls _ _ _ ((w.alloc (.cells #[.int .i64 c,.string (mk x),.int .i64 z] 45)).alloc (.cells #[.int .i64 0,.int .i64 0] 33)) _;generalize (w.alloc (.cells #[.int .i64 c,.string (mk x),.int .i64 z] 45)).alloc (.cells #[.int .i64 0,.int .i64 0] 33)=W at N2 |-;obtain⟨K1,hK1⟩:∃ K,K=w.heap.size+1:=⟨_,rfl⟩;obtain⟨K0,hK0⟩:∃ K,K=w.heap.size:=⟨_,rfl⟩
 have HB:Hid (Below w.heap.size w W/\Bx W K0 #[.int .i64 c,.string (mk x),.int .i64 z] 45/\Bx W K1 #[.int .i64 0,.int .i64 0] 33):=by
  rw[hK0,hK1];exact N2.out
 rw[<-hK1,<-hK0];have hw1:w.heap.size<=K1:=by omega
 have h01:K0≠K1:=by omega
 have h10:K1≠K0:=by omega
 clear N2 hK0 hK1;refine(HI.out W).mono ?_;rintro e w' ⟨rfl,rfl⟩;have N3:Hid (_/\_/\_):=two_new W zT #[.int .i64 0,.int .i64 0] 24 33;go_wp2_with fail;change Calls _ _ _ ((W.alloc (.cells zT 24)).alloc (.cells #[.int .i64 0,.int .i64 0] 33)) _;generalize (W.alloc (.cells zT 24)).alloc (.cells #[.int .i64 0,.int .i64 0] 33)=W3 at N3 |-;obtain⟨KF,hKF⟩:∃ K,K=W.heap.size+1:=⟨_,rfl⟩;obtain⟨KT,hKT⟩:∃ K,K=W.heap.size:=⟨_,rfl⟩
 have HB3:Hid (Below w.heap.size w W3/\Bx W3 K0 #[.int .i64 c,.string (mk x),.int .i64 z] 45/\Bx W3 K1 #[.int .i64 0,.int .i64 0] 33/\Bx W3 KT zT 24/\Bx W3 KF #[.int .i64 0,.int .i64 0] 33):=by
  rw[hKF,hKT];exact⟨HB.out.1.trans (N3.out.1.mono HB.out.1.size),HB.out.2.1.later N3.out.1,HB.out.2.2.later N3.out.1,N3.out.2.1,N3.out.2.2⟩
 rw[<-hKF,<-hKT];have hTF:KT≠KF:=by omega
 have hFT:KF≠KT:=by omega
 have hK1T:K1<KT:=by have:=HB.out.2.2.lt;omega
 have hwT:w.heap.size<=KT:=by omega
 have hwF:w.heap.size<=KF:=by omega
 have hT1:KT≠K1:=by omega
 have hF1:KF≠K1:=by omega
 have h1T:K1≠KT:=by omega
 have h1F:K1≠KF:=by omega
 clear N3 HB hKF hKT;refine(HII.out _).mono ?_;rintro e w' ⟨rfl,rfl⟩;go_wp2_with fail;refine(HIE.out _ (HTb.out.later HB3.out.1)).mono ?_;rintro e w4 ⟨rfl,H4⟩
 have HB4:Hid (Below w.heap.size w w4/\Bx w4 K0 #[.int .i64 c,.string (mk x),.int .i64 z] 45/\Bx w4 K1 #[.int .i64 0,.int .i64 0] 33/\Bx w4 KT zT 24/\Bx w4 KF #[.int .i64 0,.int .i64 0] 33) :=
  ⟨HB3.out.1.trans (H4.mono HB3.out.1.size),HB3.out.2.1.later H4,HB3.out.2.2.1.later H4,HB3.out.2.2.2.1.later H4,HB3.out.2.2.2.2.later H4⟩
 clear H4 HB3;obtain⟨r0,r1,r2⟩:=HB4.out.2.1.c3;go_wp2_with fail;refine(HME.out w4 HB4.out.1).mono ?_;rintro e w8 ⟨v,rfl,ht,hb8⟩;obtain⟨k2,x2,a2,ad2,len2,cap2,rfl⟩:=ht.cells;obtain⟨R1,R2,R3⟩:=R;have HB8:Hid (Below w.heap.size w w8/\Bx w8 K1 #[.int .i64 0,.int .i64 0] 33/\Bx w8 KT zT 24/\Bx w8 KF #[.int .i64 0,.int .i64 0] 33/\TrP w4.heap.size w8 d (.agg #[.int .i64 k2,.string x2,.string a2,.slice ad2 len2 cap2]) R1):=⟨HB4.out.1.trans (hb8.mono HB4.out.1.size),HB4.out.2.2.1.later hb8,HB4.out.2.2.2.1.later hb8,HB4.out.2.2.2.2.later hb8,ht⟩;have hKTW:KT<w4.heap.size:=HB4.out.2.2.2.1.lt;have hKFW:KF<w4.heap.size:=HB4.out.2.2.2.2.lt;have hK1W:K1<w4.heap.size:=HB4.out.2.2.1.lt;have hWs:w.heap.size<=w4.heap.size:=HB4.out.1.size;clear r0 r1 r2 HB4 ht hb8;obtain⟨d0,d1,d2,d3,d4,d5,y0,y1,y2,y3,y4,y5⟩:=c6_of HB8.out.2.2.1 HB8.out.2.2.2.1
 have H9:Hid (∀ w9,w9=fill6 w8 KT KF (.int .i64 k2) (.string x2) (.string a2) (.slice ad2 len2 cap2) (.int .i64 R2) (.int .i64 R3)->(Below w.heap.size w w9/\Bx w9 K1 #[.int .i64 0,.int .i64 0] 33/\Bx w9 KT #[.int .i64 k2,.string x2,.string a2,.slice ad2 len2 cap2] 24/\Bx w9 KF #[.int .i64 R2,.int .i64 R3] 33/\TrP w4.heap.size w9 d (.agg #[.int .i64 k2,.string x2,.string a2,.slice ad2 len2 cap2]) R1)):=fun w9 e=>by
  subst e;have g:=fill6_is HB8.out.2.2.1 HB8.out.2.2.2.1 (by omega) HB8.out.1 (by omega) (by omega) (.int .i64 k2) (.string x2) (.string a2) (.slice ad2 len2 cap2) (.int .i64 R2) (.int .i64 R3);exact⟨g.1,(((((HB8.out.2.1.other h1T _ _).other h1T _ _).other h1T _ _).other h1T _ _).other h1F _ _).other h1F _ _,g.2.1,g.2.2,(((((HB8.out.2.2.2.2.set hKTW).set hKTW).set hKTW).set hKTW).set hKFW).set hKFW⟩
 clear HB8;go_upto_region 0 with fail
 have N9:=H9.out _ rfl;clear H9;change Code.wp _ _ _ _ (fill6 w8 KT KF (.int .i64 k2) (.string x2) (.string a2) (.slice ad2 len2 cap2) (.int .i64 R2) (.int .i64 R3));generalize fill6 w8 KT KF (.int .i64 k2) (.string x2) (.string a2) (.slice ad2 len2 cap2) (.int .i64 R2) (.int .i64 R3)=w9 at N9 |-;have HX:Hid (_/\_/\_/\_/\_):=N9;clear N9 d0 d1 d2 d3 d4 d5 y0 y1 y2 y3 y4 y5;obtain⟨p0,p1,p2,p3⟩:=HX.out.2.2.1.c4;obtain⟨q0,q1⟩:=HX.out.2.2.2.1.c2;obtain⟨c0,c1⟩:=HX.out.2.1.c2;have z0:=HX.out.2.1.fz 0;have z1:=HX.out.2.1.fz 1;have BA:=below_alloc w9 (.cells #[.int .i64 k2,.string x2,.string a2,.slice ad2 len2 cap2] 24);have XA:=HX.out.2.1.later BA;have XB:=HX.out.2.2.2.1.later BA;have u0:(w9.alloc (.cells #[.int .i64 k2,.string x2,.string a2,.slice ad2 len2 cap2] 24)).cell? ⟨K1,0,none⟩=some (.int .i64 0):=XA.cell 0;have u1:(w9.alloc (.cells #[.int .i64 k2,.string x2,.string a2,.slice ad2 len2 cap2] 24)).frozen? ⟨K1,0,none⟩=false:=XA.fz 0;have u2:(w9.alloc (.cells #[.int .i64 k2,.string x2,.string a2,.slice ad2 len2 cap2] 24)).cell? ⟨K1,1,none⟩=some (.int .i64 0):=XA.cell 1;have u3:(w9.alloc (.cells #[.int .i64 k2,.string x2,.string a2,.slice ad2 len2 cap2] 24)).frozen? ⟨K1,1,none⟩=false:=XA.fz 1;obtain⟨u4,u5⟩:=XB.c2;have u6:(w9.alloc (.cells #[.int .i64 k2,.string x2,.string a2,.slice ad2 len2 cap2] 24)).drew.cell? ⟨K1,0,none⟩=some (.int .i64 0):=XA.cell 0;have u7:(w9.alloc (.cells #[.int .i64 k2,.string x2,.string a2,.slice ad2 len2 cap2] 24)).drew.frozen? ⟨K1,0,none⟩=false:=XA.fz 0;have u8:(w9.alloc (.cells #[.int .i64 k2,.string x2,.string a2,.slice ad2 len2 cap2] 24)).drew.cell? ⟨K1,1,none⟩=some (.int .i64 0):=XA.cell 1;have u9:(w9.alloc (.cells #[.int .i64 k2,.string x2,.string a2,.slice ad2 len2 cap2] 24)).drew.frozen? ⟨K1,1,none⟩=false:=XA.fz 1;obtain⟨u10,u11⟩:=XB.c2
 have HF:Hid (Below w.heap.size w (((w9.alloc (.cells #[.int .i64 k2,.string x2,.string a2,.slice ad2 len2 cap2] 24)).setCell ⟨K1,0,none⟩ (.int .i64 R2)).setCell ⟨K1,1,none⟩ (.int .i64 R3))/\Bx (((w9.alloc (.cells #[.int .i64 k2,.string x2,.string a2,.slice ad2 len2 cap2] 24)).setCell ⟨K1,0,none⟩ (.int .i64 R2)).setCell ⟨K1,1,none⟩ (.int .i64 R3)) w9.heap.size #[.int .i64 k2,.string x2,.string a2,.slice ad2 len2 cap2] 24/\Bx (((w9.alloc (.cells #[.int .i64 k2,.string x2,.string a2,.slice ad2 len2 cap2] 24)).setCell ⟨K1,0,none⟩ (.int .i64 R2)).setCell ⟨K1,1,none⟩ (.int .i64 R3)) K1 #[.int .i64 R2,.int .i64 R3] 33/\Kd w.heap.size (((w9.alloc (.cells #[.int .i64 k2,.string x2,.string a2,.slice ad2 len2 cap2] 24)).setCell ⟨K1,0,none⟩ (.int .i64 R2)).setCell ⟨K1,1,none⟩ (.int .i64 R3)) d [.int .i64 k2,.string x2,.string a2,.slice ad2 len2 cap2] [R1]):=by
  have hn:w9.heap.size≠K1:=by have:=HX.out.2.1.lt;omega
  have ht9:TrP w4.heap.size (((w9.alloc (.cells #[.int .i64 k2,.string x2,.string a2,.slice ad2 len2 cap2] 24)).setCell ⟨K1,0,none⟩ (.int .i64 R2)).setCell ⟨K1,1,none⟩ (.int .i64 R3)) d (.agg #[.int .i64 k2,.string x2,.string a2,.slice ad2 len2 cap2]) R1:=((HX.out.2.2.2.2.later BA).set hK1W).set hK1W;exact⟨((HX.out.1.trans (BA.mono HX.out.1.size)).setCell (p:=⟨K1,0,none⟩) hw1 _).setCell (p:=⟨K1,1,none⟩) hw1 _,((Bx.new w9 _ _).other hn _ _).other hn _ _,(XA.set 0 _).set 1 _,Kd.one (TrP.mono hWs ht9)⟩
 have hWB:w.heap.size<=w9.heap.size:=HX.out.1.size;clear HX BA XA XB;go_region;go_wp2;change bodyPost _ _ _ _ _ (((w9.alloc (.cells #[.int .i64 k2,.string x2,.string a2,.slice ad2 len2 cap2] 24)).setCell ⟨K1,0,none⟩ (.int .i64 R2)).setCell ⟨K1,1,none⟩ (.int .i64 R3)).drew;generalize ((w9.alloc (.cells #[.int .i64 k2,.string x2,.string a2,.slice ad2 len2 cap2] 24)).setCell ⟨K1,0,none⟩ (.int .i64 R2)).setCell ⟨K1,1,none⟩ (.int .i64 R3)=WW at HF |-;obtain⟨j0,j1⟩:=HF.out.2.2.1.c2;refine bodyPost_ret (v:=.tuple #[.slice (some ⟨w9.heap.size,0,none⟩) 1 1,.agg #[.int .i64 R2,.int .i64 R3]]) (by simp[results,Tryz.results36,go_sem,j0,j1]) rfl ?_;exact⟨w9.heap.size,[.int .i64 k2,.string x2,.string a2,.slice ad2 len2 cap2],rfl,hWB,HF.out.2.1.drew 1,HF.out.2.2.2.later ((Below.refl _ _).drew),HF.out.1.drew⟩
end Tre
end Go.Proofs.YtidhpmcmbooaoaaGreatDoor
