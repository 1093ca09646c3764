/- . -/
import Derived.Test.YtalijhclfppohaaGreatDoorR46TreeBri
import Derived.Test.YtalijhclfppohaaGreatDoorR47GraphOrd
import Derived.Test.YtalijhclfppohaaGreatDoorR24FlowBrk
set_option linter.unusedSimpArgs false
set_option linter.unusedVariables false
set_option maxRecDepth 100000
namespace Go.Proofs.YtalijhclfppohaaGreatDoor
namespace Lod
open Utf Rws Pln Flw Tre
open Go.RowKit Go.Shelf
open Blk (Rw RwAt z3)
open Grp (wp_region_EI wpOpIn_go wpOpIn_append slu slu_t slu_f)
set_option maxHeartbeats 8000000
attribute [local go_sem] Oper.semAt_some
structure Lo (W0 W:World) (K C:Nat):Prop where
 os:W.os=W0.os
 tape:W.tape=W0.tape
 out:W.output=W0.output
 size:W0.heap.size<=W.heap.size
 block:∀ j,j<C->j≠K->W.heap[j]?=W0.heap[j]?
theorem Lo.refl (W:World) (K C:Nat):Lo W W K C:=⟨rfl,rfl,rfl,Nat.le_refl _,fun _ _ _=>rfl⟩
theorem Lo.grown {W0 W W':World} {K C:Nat} {row:Option Nat} (h:Lo W0 W K C) (hC:C<=W0.heap.size) (hg:W.grownBy W' row) (hr:∀ r,row=some r->C<=r):Lo W0 W' K C :=
 ⟨hg.os.trans h.os,hg.tape.trans h.tape,hg.output.trans h.out,Nat.le_trans h.size hg.size,fun j hj hk=>(hg.block j (by have:=h.size;omega) (fun e=>by have:=hr j e.symm;omega)).trans (h.block j hj hk)⟩
theorem Lo.later {W0 W W':World} {K C:Nat} (h:Lo W0 W K C) (hC:C<=W0.heap.size) (hb:Below W.heap.size W W'):Lo W0 W' K C:=h.grown hC (grown_of_below hb) (fun r e=>by cases e)
theorem Lo.setK {W0 W:World} {K C:Nat} (h:Lo W0 W K C) (i:Nat) (v:Value):Lo W0 (W.setCell ⟨K,i,none⟩ v) K C :=
 ⟨h.os,h.tape,h.out,by rw[World.size_setCell];exact h.size,fun j hj hk=>(Below.heap_setCell _ _ _ _ (by simpa using hk)).trans (h.block j hj hk)⟩
theorem Lo.setC {W0 W:World} {K C k:Nat} (h:Lo W0 W K C) (hk:C<=k) (i:Nat) (v:Value):Lo W0 (W.setCell ⟨k,i,none⟩ v) K C :=
 ⟨h.os,h.tape,h.out,by rw[World.size_setCell];exact h.size,fun j hj hn=>(Below.heap_setCell _ _ _ _ (fun e=>by simp only at e;omega)).trans (h.block j hj hn)⟩
theorem Lo.below {w W0 W:World} {K C:Nat} (h:Lo W0 W K C) (hb:Below w.heap.size w W0) (hK:w.heap.size<=K) (hC:w.heap.size<=C):Below w.heap.size w W :=
 ⟨h.os.trans hb.os,h.tape.trans hb.tape,h.out.trans hb.output,Nat.le_trans hb.size h.size,fun j hj=>(h.block j (by omega) (by omega)).trans (hb.block j hj)⟩
theorem Lo.bx {W0 W:World} {K C k:Nat} {c:Array Value} {t:TypeId} (h:Lo W0 W K C) (hb:Bx W0 k c t) (hk:k<C) (hn:k≠K):Bx W k c t:=(h.block k hk hn).trans hb
theorem Lo.own {β:Type} {W0:World} {K C B:Nat} (hC:C<=W0.heap.size) (hB:C<=B):OwnFrom B (fun (_:β) W=>Lo W0 W K C):=fun _ W W' row h hg hr=>h.grown hC hg (fun r e=>Nat.le_trans hB (hr r e).1)
theorem trq_kept {P:Nat->Prop} {X Y:World} {row:Option Nat} (hg:X.grownBy Y row) (hr:∀ r,row=some r->∃ o:Obj,X.heap[r]?=some o/\o.isCells=false):∀ {d:Nat} {v:Value} {t:Tr},TrQ P X d v t->TrQ P Y d v t
 | 0,v,t,h=>h
 | d+1,v,t,h=>by
  obtain⟨ad,len,cap,rfl,hl,hc,hm,hz,hk⟩:=h;refine⟨ad,len,cap,rfl,hl,hc,hm,hz,fun hp=> ?_⟩;obtain⟨g,off,ha,hP,hlt,hcell⟩:=hk hp;refine⟨g,off,ha,hP,Nat.lt_of_lt_of_le hlt hg.size,fun i hi=> ?_⟩;obtain⟨c0,c1,c2,c3,h0,h1,h2,h3,ht⟩:=hcell i hi;exact⟨c0,c1,c2,c3,cell_kept h0 hg hr,cell_kept h1 hg hr,cell_kept h2 hg hr,cell_kept h3 hg hr,trq_kept hg hr ht⟩
theorem kdq_kept {P:Nat->Prop} {X Y:World} {row:Option Nat} {d:Nat} {xs:List Value} {ks:List Tr} (h:KdQ P X d xs ks) (hg:X.grownBy Y row) (hr:∀ r,row=some r->∃ o:Obj,X.heap[r]?=some o/\o.isCells=false):KdQ P Y d xs ks :=
 ⟨h.1,h.2.1,fun i hi=>by obtain⟨c0,c1,c2,c3,h0,h1,h2,h3,ht⟩:=h.2.2 i hi;exact⟨c0,c1,c2,c3,h0,h1,h2,h3,trq_kept hg hr ht⟩⟩
theorem own_kept {C:Nat} {X Y:World} {row:Option Nat} {v:Value} {n:Nat} {xs:List Value} (h:X.ownsRow C 35 4 v n xs) (hg:X.grownBy Y row) (hr:∀ r,row=some r->∃ o:Obj,X.heap[r]?=some o/\o.isCells=false):Y.ownsRow C 35 4 v n xs:=by
 refine h.kept hg ?_;rcases h.2 with ⟨rfl,_⟩ | ⟨g,cap,cur,rfl,_,hgb,_⟩
 ·exact .inl rfl
 ·refine .inr fun e'=> ?_
  obtain⟨o,ho,hc⟩:=hr g (by simpa [Value.ownBlock]using e'.symm);rw[hgb]at ho;cases ho;cases hc
def LdI (K C:Nat) (ks:List Tr) (W:World):Prop:=∃ (v:Value) (xs:List Value),Bx W K #[v] 29/\W.ownsRow C 35 4 v ks.length xs/\KdQ (Out C v) W 129 xs ks
theorem ldI_own {β:Type} (K C:Nat) (f:β->List Tr):Own (fun (s:β) W=>LdI K C (f s) W):=fun s X Y row h hg hr=>by
 obtain⟨v,xs,h1,h2,h3⟩:=h;refine⟨v,xs,?_,own_kept h2 hg hr,kdq_kept h3 hg hr⟩
 exact(hg.block K h1.lt (fun e=>by
  obtain⟨o,ho,hc⟩:=hr K e.symm;rw[show X.heap[K]?=_ from h1]at ho;cases ho;cases hc)).trans h1
theorem own_fill {C n g cap:Nat} {W:World} {xs:List Value} {z0 z1 z2 z3 u0 u1 u2 u3:Value} (h:W.ownsRow C 35 4 (.slice (some ⟨g,0,none⟩) (n+1) cap) (n+1) (xs++[z0,z1,z2,z3])) (hx:xs.length=n*4) :
  ((((W.setCell ⟨g,n*4,none⟩ u0).setCell ⟨g,n*4+1,none⟩ u1).setCell ⟨g,n*4+2,none⟩ u2).setCell ⟨g,n*4+3,none⟩ u3).ownsRow C 35 4 (.slice (some ⟨g,0,none⟩) (n+1) cap) (n+1) (xs++[u0,u1,u2,u3]):=by
 obtain⟨hl,h⟩:=h;rcases h with ⟨h1,_⟩ | ⟨g',cap',cur,e,hb,hg,hc,hm,hs,ht⟩
 ·cases h1
 ·cases e;obtain⟨L⟩:=cur
  have hL:L=xs++([z0,z1,z2,z3]++L.drop ((n+1)*4)):=by
   rw[<-List.append_assoc,<-show L.take ((n+1)*4)=xs++[z0,z1,z2,z3]from ht,List.take_append_drop]
  generalize L.drop ((n+1)*4)=R at hL;subst hL;have e0:(xs++([z0,z1,z2,z3]++R)).set (n*4) u0=xs++([u0,z1,z2,z3]++R):=by rw[List.set_append_right _ _ (by omega),show n*4-xs.length=0 by omega];rfl
  have e1:(xs++([u0,z1,z2,z3]++R)).set (n*4+1) u1=xs++([u0,u1,z2,z3]++R):=by rw[List.set_append_right _ _ (by omega),show n*4+1-xs.length=1 by omega];rfl
  have e2:(xs++([u0,u1,z2,z3]++R)).set (n*4+2) u2=xs++([u0,u1,u2,z3]++R):=by rw[List.set_append_right _ _ (by omega),show n*4+2-xs.length=2 by omega];rfl
  have e3:(xs++([u0,u1,u2,z3]++R)).set (n*4+3) u3=xs++([u0,u1,u2,u3]++R):=by rw[List.set_append_right _ _ (by omega),show n*4+3-xs.length=3 by omega];rfl
  refine⟨by simpa using hl,.inr ⟨g,cap,⟨xs++([u0,u1,u2,u3]++R)⟩,rfl,hb,?_,hc,hm,by simpa using hs,?_⟩⟩
  ·have b0:Bx W g ⟨xs++([z0,z1,z2,z3]++R)⟩ 35:=hg;have b1:=(((b0.set (n*4) u0).set (n*4+1) u1).set (n*4+2) u2).set (n*4+3) u3;simp only[List.setIfInBounds_toArray,e0,e1,e2,e3]at b1;exact b1
  ·show (xs++([u0,u1,u2,u3]++R)).take ((n+1)*4)=_;rw[<-List.append_assoc,List.take_left' (by simp;omega)]
theorem kdq_one {P:Nat->Prop} {W:World} {d:Nat} {k:Int} {x a:ByteArray} {ad:Option Addr} {len cap:Nat} {t:Tr} (h:TrQ P W d (.agg #[.int .i64 k,.string x,.string a,.slice ad len cap]) t):KdQ P W d [.int .i64 k,.string x,.string a,.slice ad len cap] [t]:=by
 refine⟨rfl,fun u hu=> ?_,fun i hi=> ?_⟩
 ·simp only[List.mem_cons,List.not_mem_nil,or_false]at hu;rcases hu with rfl | rfl | rfl | rfl<;>rfl
 ·have:i=0:=by simp at hi;omega
  subst this;exact⟨_,_,_,_,rfl,rfl,rfl,rfl,h⟩
structure LdA (W0 W:World) (K K9 C:Nat) (bx v:Value) (n:Nat) (xs:List Value) (zs:List Value) (ks:List Tr) (tc:Array Value) (T:Tr):Prop where
 lo:Lo W0 W K C
 bt:Bx W K #[bx] 29
 b9:Bx W K9 tc 35
 own:W.ownsRow C 35 4 v n (xs++zs)
 kd:KdQ (Out C v) W 129 xs ks
 tr:TrQ (Out C v) W 129 (.agg tc) T
 n9:Out C v K9
 hC:C=W0.heap.size
 hK:K<C
theorem LdA.later {W0 W W':World} {K K9 C n:Nat} {bx v:Value} {xs zs:List Value} {ks:List Tr} {tc:Array Value} {T:Tr} (h:LdA W0 W K K9 C bx v n xs zs ks tc T) (hb:Below W.heap.size W W'):LdA W0 W' K K9 C bx v n xs zs ks tc T :=
 ⟨h.lo.later (Nat.le_of_eq h.hC) hb,h.bt.later hb,h.b9.later hb,own_keep h.own (fun j _ hj=>hb.block j hj),h.kd.later hb,h.tr.keep hb.size (fun j _ hj=>hb.block j hj),h.n9,h.hC,h.hK⟩
theorem LdA.more {W0 W W':World} {K K9 C n n':Nat} {bx v v':Value} {xs ys:List Value} {ks:List Tr} {tc:Array Value} {T:Tr} (h:LdA W0 W K K9 C bx v n xs [] ks tc T) (hown:W'.ownsRow C 35 4 v' n' (xs++ys)) (hg:W.grownBy W' v.ownBlock) (hat:v'.ownBlock=v.ownBlock\/v'.ownBlock=some W.heap.size):LdA W0 W' K K9 C bx v' n' xs ys ks tc T:=by
 have hrow:∀ k,v.ownBlock=some k->C<=k:=fun k hk=>(own_blk h.own hk).1
 have hkeep:∀ j,j<W.heap.size->(∀ k,v.ownBlock=some k->j≠k)->W'.heap[j]?=W.heap[j]?:=fun j hj hne=>hg.block j hj (fun e=>hne j e.symm rfl)
 have hout:∀ j,Out C v j/\j<W.heap.size->Out C v' j:=fun j a=>⟨a.1.1,fun k hk=>by
  rcases hat with e | e
  ·rw[e]at hk;exact a.1.2 k hk
  ·rw[e]at hk;cases hk;exact Nat.ne_of_lt a.2⟩
 have k2:KdQ (fun j=>Out C v j/\j<W.heap.size) W 129 xs ks:=h.kd.wide (fun j a c=>⟨a,c⟩);have k3:TrQ (fun j=>Out C v j/\j<W.heap.size) W 129 (.agg tc) T:=h.tr.wide (fun j a c=>⟨a,c⟩);have hKl:=h.bt.lt;have hK9:=h.b9.lt;have hKC:=h.hK;exact⟨h.lo.grown (Nat.le_of_eq h.hC) hg hrow,(hkeep K hKl (fun k hk=>by have:=hrow k hk;omega)).trans h.bt,(hkeep K9 hK9 h.n9.2).trans h.b9,hown,(k2.keep hg.size (fun j a _=>hkeep j a.2 a.1.2)).wide (fun j a _=>hout j a),(k3.keep hg.size (fun j a _=>hkeep j a.2 a.1.2)).wide (fun j a _=>hout j a),hout K9 ⟨h.n9,hK9⟩,h.hC,h.hK⟩
theorem LdA.box {W0 W:World} {K K9 C n:Nat} {bx v:Value} {xs zs:List Value} {ks:List Tr} {tc:Array Value} {T:Tr} (h:LdA W0 W K K9 C bx v n xs zs ks tc T) (u:Value):LdA W0 (W.setCell ⟨K,0,none⟩ u) K K9 C u v n xs zs ks tc T:=by
 have hKC:=h.hK;have hk:∀ j,C<=j->(W.setCell ⟨K,0,none⟩ u).heap[j]?=W.heap[j]?:=fun j hj=>Below.heap_setCell _ _ _ _ (fun e=>by simp only at e;omega)
 have h9:=h.n9.1;exact⟨h.lo.setK 0 u,h.bt.set 0 u,(hk K9 h9).trans h.b9,own_keep h.own (fun j hj _=>hk j hj),h.kd.keep (by simp[World.setCell]) (fun j a _=>hk j a.1),h.tr.keep (by simp[World.setCell]) (fun j a _=>hk j a.1),h.n9,h.hC,h.hK⟩
theorem LdA.fill {W0 W:World} {K K9 C n g cap:Nat} {bx:Value} {xs:List Value} {ks:List Tr} {tc:Array Value} {T:Tr} {z0 z1 z2 z3 u0 u1 u2 u3:Value} (h:LdA W0 W K K9 C bx (.slice (some ⟨g,0,none⟩) (n+1) cap) (n+1) xs [z0,z1,z2,z3] ks tc T) (hx:xs.length=n*4) :
  LdA W0 ((((W.setCell ⟨g,n*4,none⟩ u0).setCell ⟨g,n*4+1,none⟩ u1).setCell ⟨g,n*4+2,none⟩ u2).setCell ⟨g,n*4+3,none⟩ u3) K K9 C bx (.slice (some ⟨g,0,none⟩) (n+1) cap) (n+1) xs [u0,u1,u2,u3] ks tc T:=by
 have hgo:=own_blk h.own (k:=g) rfl;have hKC:=h.hK
 have hk:∀ j,j≠g->((((W.setCell ⟨g,n*4,none⟩ u0).setCell ⟨g,n*4+1,none⟩ u1).setCell ⟨g,n*4+2,none⟩ u2).setCell ⟨g,n*4+3,none⟩ u3).heap[j]?=W.heap[j]?:=fun j hj=>by
  rw[Below.heap_setCell _ _ _ _ hj,Below.heap_setCell _ _ _ _ hj,Below.heap_setCell _ _ _ _ hj,Below.heap_setCell _ _ _ _ hj]
 have hs:W.heap.size<=((((W.setCell ⟨g,n*4,none⟩ u0).setCell ⟨g,n*4+1,none⟩ u1).setCell ⟨g,n*4+2,none⟩ u2).setCell ⟨g,n*4+3,none⟩ u3).heap.size:=by simp[World.setCell]
 refine⟨(((h.lo.setC hgo.1 _ _).setC hgo.1 _ _).setC hgo.1 _ _).setC hgo.1 _ _,(hk K (by omega)).trans h.bt,(hk K9 (h.n9.2 g rfl)).trans h.b9,?_,h.kd.keep hs (fun j a _=>hk j (a.2 g rfl)),h.tr.keep hs (fun j a _=>hk j (a.2 g rfl)),h.n9,h.hC,h.hK⟩;exact own_fill h.own hx
theorem ldA_done {W0 W:World} {K K9 C n:Nat} {v:Value} {xs:List Value} {ks:List Tr} {k:Int} {x y:ByteArray} {ad:Option Addr} {l c:Nat} {T:Tr} (h:LdA W0 W K K9 C v v (n+1) xs [.int .i64 k,.string x,.string y,.slice ad l c] ks #[.int .i64 k,.string x,.string y,.slice ad l c] T) (hn:n=ks.length):LdI K C (ks++[T]) W:=by
 refine⟨v,_,h.bt,?_,h.kd.app (kdq_one h.tr)⟩;have:=h.own;rw[List.length_append,List.length_singleton,<-hn];exact this
theorem cells_z4 (W:World) (G:Nat) (a b c d:Value) (h:Bx W G #[a,b,c,d] 35):∀ j u,([a,b,c,d])[j]?=some u->W.cell? ((⟨G,0,none⟩:Addr).add j)=some u:=by
 intro j u hj;have e:(⟨G,0,none⟩:Addr).add j=⟨G,j,none⟩:=by unfold Addr.add;split<;>simp_all
 rw[e,h.cell j];simpa using hj
theorem one4 (k:Int) (x y:ByteArray) (ad:Option Addr) (l c:Nat):∀ u∈[Value.int .i64 k,.string x,.string y,.slice ad l c],u.oneCell'=true:=by
 intro u hu;simp only[List.mem_cons,List.not_mem_nil,or_false]at hu;rcases hu with rfl | rfl | rfl | rfl<;>rfl
def KAtP (c:Nat) (w:World) (ad:Option Addr) (len:Nat) (ks:List Tr):Prop:=len=ks.length/\(0<len->∃ b off,ad=some ⟨b,off,none⟩/\c<=b/\b<w.heap.size/\∀ i,i<len->∃ c0 c1 c2 c3,w.cell? ⟨b,off+i*4,none⟩=some c0/\w.cell? ⟨b,off+i*4+1,none⟩=some c1/\w.cell? ⟨b,off+i*4+2,none⟩=some c2/\w.cell? ⟨b,off+i*4+3,none⟩=some c3/\TrP c w 129 (.agg #[c0,c1,c2,c3]) (ks.getD i tr0))
theorem KAtP.nil (c:Nat) (w:World):KAtP c w none 0 []:=⟨rfl,fun h=>absurd h (by decide)⟩
theorem KAtP.mono {c c' len:Nat} {w:World} {ad:Option Addr} {ks:List Tr} (h:KAtP c w ad len ks) (hc:c'<=c):KAtP c' w ad len ks :=
 ⟨h.1,fun hp=>by
  obtain⟨b,off,ha,hb,hlt,hcl⟩:=h.2 hp;refine⟨b,off,ha,Nat.le_trans hc hb,hlt,fun i hi=> ?_⟩;obtain⟨c0,c1,c2,c3,h0,h1,h2,h3,ht⟩:=hcl i hi;exact⟨c0,c1,c2,c3,h0,h1,h2,h3,ht.mono hc⟩⟩
theorem KAtP.keep {c len:Nat} {w w':World} {ad:Option Addr} {ks:List Tr} (h:KAtP c w ad len ks) (hs:w.heap.size<=w'.heap.size) (hk:∀ j,c<=j->j<w.heap.size->w'.heap[j]?=w.heap[j]?):KAtP c w' ad len ks :=
 ⟨h.1,fun hp=>by
  obtain⟨b,off,ha,hb,hlt,hcl⟩:=h.2 hp;refine⟨b,off,ha,hb,Nat.lt_of_lt_of_le hlt hs,fun i hi=> ?_⟩;obtain⟨c0,c1,c2,c3,h0,h1,h2,h3,ht⟩:=hcl i hi;have e:∀ n,w'.cell? ⟨b,n,none⟩=w.cell? ⟨b,n,none⟩:=fun n=>World.cell?_of_block (w:=w) (hk b hb hlt)
  exact⟨c0,c1,c2,c3,(e _).trans h0,(e _).trans h1,(e _).trans h2,(e _).trans h3,ht.keep hs hk⟩⟩
theorem KAtP.later {c len:Nat} {w w':World} {ad:Option Addr} {ks:List Tr} (h:KAtP c w ad len ks) (hb:Below w.heap.size w w'):KAtP c w' ad len ks:=h.keep hb.size (fun j _ hj=>hb.block j hj)
theorem kat_own {C n vc:Nat} {W:World} {va:Option Addr} {xs:List Value} {ks:List Tr} {P:Nat->Prop} (hown:W.ownsRow C 35 4 (.slice va n vc) n xs) (hk:KdQ P W 129 xs ks) (hP:∀ j,P j->C<=j) (hn:n=ks.length):KAtP C W va n ks/\n<=vc/\vc<=maxLen:=by
 obtain⟨hxl,hv⟩:=hown;rcases hv with ⟨e,h0⟩ | ⟨g,cap,cur,e,hg,hh,hnc,hcm,hcs,htk⟩
 ·cases e;exact⟨⟨hn,fun h=>absurd h (by omega)⟩,Nat.le_refl _,Nat.zero_le _⟩
 ·cases e;refine⟨⟨hn,fun _=>⟨g,0,rfl,hg,(Array.getElem?_eq_some_iff.1 hh).1,fun i hi=> ?_⟩⟩,hnc,hcm⟩;obtain⟨c0,c1,c2,c3,h0,h1,h2,h3,ht⟩:=hk.2.2 i (by omega)
  have cc:∀ j u,j<n*4->xs[j]?=some u->W.cell? ⟨g,0+j,none⟩=some u:=fun j u hj hu=>by
   rw[Lib.cell_of_heap hh];rw[<-htk,List.getElem?_take_of_lt hj]at hu;simpa using hu
  exact⟨c0,c1,c2,c3,cc _ _ (by omega) h0,by have:=cc _ _ (by omega) h1;rwa [show 0+(i*4+1)=0+i*4+1 by omega]at this,by have:=cc _ _ (by omega) h2;rwa [show 0+(i*4+2)=0+i*4+2 by omega]at this,by have:=cc _ _ (by omega) h3;rwa [show 0+(i*4+3)=0+i*4+3 by omega]at this,ht.wide (fun j a _=>hP j a)⟩
theorem own_sh {C:Nat} {W:World} {v:Value} {n:Nat} {xs:List Value} (h:W.ownsRow C 35 4 v (n+1) xs):∃ g cap,v=.slice (some ⟨g,0,none⟩) (n+1) cap:=by
 rcases h.2 with ⟨_,h0⟩ | ⟨g,cap,cur,rfl,_⟩
 ·omega
 ·exact⟨g,cap,rfl⟩
end Lod
end Go.Proofs.YtalijhclfppohaaGreatDoor
