/- . -/
import Derived.Test.YtidhpmcmbooaoaaGreatDoorR30FlowOn2
import Derived.Maps.AppendAt
set_option linter.unusedSimpArgs false
set_option linter.unusedVariables false
set_option maxRecDepth 100000
namespace Go.Proofs.YtidhpmcmbooaoaaGreatDoor
namespace Flw
open Utf Rws Pln
open Go.RowKit
variable {b c p dp:Nat} {s:Ln} {w w1 w2:World}
def TrQ (P:Nat->Prop) (w:World):Nat->Value->Tr->Prop
 | 0,_,_=>False
 | d+1,v,t=>∃ ad len cap,v=.agg #[.int .i64 t.kind,.string (mk t.text),.string (mk t.anc),.slice ad len cap]/\len=t.kids.length/\len<=cap/\cap<=maxLen/\(-9223372036854775808<=t.kind/\t.kind<=9223372036854775807/\t.text.length<=9223372036854775807/\t.anc.length<=9223372036854775807) /\
   (0<len->∃ g off,ad=some ⟨g,off,none⟩/\P g/\g<w.heap.size/\∀ i,i<len->∃ c0 c1 c2 c3,w.cell? ⟨g,off+i*4,none⟩=some c0/\w.cell? ⟨g,off+i*4+1,none⟩=some c1 /\
    w.cell? ⟨g,off+i*4+2,none⟩=some c2/\w.cell? ⟨g,off+i*4+3,none⟩=some c3/\TrQ P w d (.agg #[c0,c1,c2,c3]) (t.kids.getD i tr0))
variable {P P':Nat->Prop}
theorem TrQ.v:∀ {d:Nat} {v:Value} {t:Tr},TrQ P w d v t->TrV w d v t
 | 0,v,t,h=>h
 | d+1,v,t,h=>by
  obtain⟨ad,len,cap,rfl,hl,hc,hm,hz,hk⟩:=h;refine⟨ad,len,cap,rfl,hl,hc,hm,hz,fun hp=> ?_⟩;obtain⟨g,off,ha,_,hlt,hcell⟩:=hk hp;refine⟨g,off,ha,hlt,fun i hi=> ?_⟩;obtain⟨c0,c1,c2,c3,h0,h1,h2,h3,ht⟩:=hcell i hi;exact⟨c0,c1,c2,c3,h0,h1,h2,h3,TrQ.v ht⟩
theorem TrQ.keep (hs:w.heap.size<=w1.heap.size) (hk:∀ j,P j->j<w.heap.size->w1.heap[j]?=w.heap[j]?):∀ {d:Nat} {v:Value} {t:Tr},TrQ P w d v t->TrQ P w1 d v t
 | 0,v,t,h=>h
 | d+1,v,t,h=>by
  obtain⟨ad,len,cap,rfl,hl,hc,hm,hz,hkk⟩:=h;refine⟨ad,len,cap,rfl,hl,hc,hm,hz,fun hp=> ?_⟩;obtain⟨g,off,ha,hb,hlt,hcell⟩:=hkk hp;refine⟨g,off,ha,hb,Nat.lt_of_lt_of_le hlt hs,fun i hi=> ?_⟩;obtain⟨c0,c1,c2,c3,h0,h1,h2,h3,ht⟩:=hcell i hi;have e:∀ n,w1.cell? ⟨g,n,none⟩=w.cell? ⟨g,n,none⟩:=fun n=>World.cell?_of_block (w:=w) (hk g hb hlt)
  exact⟨c0,c1,c2,c3,(e _).trans h0,(e _).trans h1,(e _).trans h2,(e _).trans h3,TrQ.keep hs hk ht⟩
theorem TrQ.wide (hP:∀ j,P j->j<w.heap.size->P' j):∀ {d:Nat} {v:Value} {t:Tr},TrQ P w d v t->TrQ P' w d v t
 | 0,v,t,h=>h
 | d+1,v,t,h=>by
  obtain⟨ad,len,cap,rfl,hl,hcp,hm,hz,hk⟩:=h;refine⟨ad,len,cap,rfl,hl,hcp,hm,hz,fun hp=> ?_⟩;obtain⟨g,off,ha,hg,hlt,hcell⟩:=hk hp;refine⟨g,off,ha,hP g hg hlt,hlt,fun i hi=> ?_⟩;obtain⟨c0,c1,c2,c3,h0,h1,h2,h3,ht⟩:=hcell i hi;exact⟨c0,c1,c2,c3,h0,h1,h2,h3,TrQ.wide hP ht⟩
theorem TrQ.more:∀ {d d':Nat} {v:Value} {t:Tr},TrQ P w d v t->d<=d'->TrQ P w d' v t
 | 0,d',v,t,h,hd=>h.elim
 | d+1,d',v,t,h,hd=>by
  obtain⟨e,rfl⟩:∃ e,d'=e+1:=⟨d'-1,by omega⟩;obtain⟨ad,len,cap,rfl,hl,hc,hm,hz,hk⟩:=h;refine⟨ad,len,cap,rfl,hl,hc,hm,hz,fun hp=> ?_⟩;obtain⟨g,off,ha,hb,hlt,hcell⟩:=hk hp;refine⟨g,off,ha,hb,hlt,fun i hi=> ?_⟩;obtain⟨c0,c1,c2,c3,h0,h1,h2,h3,ht⟩:=hcell i hi;exact⟨c0,c1,c2,c3,h0,h1,h2,h3,TrQ.more ht (by omega)⟩
def TrP (c:Nat) (w:World) (d:Nat) (v:Value) (t:Tr):Prop:=TrQ (fun g=>c<=g) w d v t
theorem TrP.v {d:Nat} {v:Value} {t:Tr} (h:TrP c w d v t):TrV w d v t:=TrQ.v h
theorem TrP.keep (hs:w.heap.size<=w1.heap.size) (hk:∀ j,c<=j->j<w.heap.size->w1.heap[j]?=w.heap[j]?) {d:Nat} {v:Value} {t:Tr} (h:TrP c w d v t):TrP c w1 d v t:=TrQ.keep hs hk h
theorem TrP.fr {d:Nat} {v:Value} {t:Tr} (h:TrP c w d v t) (hf:Fr b w w1) (hb:b<c):TrP c w1 d v t:=h.keep hf.size (fun j h1 h2=>hf.2 j (by omega) h2)
theorem TrP.later {d:Nat} {v:Value} {t:Tr} (h:TrP c w d v t) (hb:Below w.heap.size w w1):TrP c w1 d v t:=h.keep hb.size (fun j _ hj=>hb.block j hj)
theorem TrP.mono {c':Nat} (hc:c'<=c) {d:Nat} {v:Value} {t:Tr} (h:TrP c w d v t):TrP c' w d v t:=TrQ.wide (fun j h1 _=>Nat.le_trans hc h1) h
theorem TrP.more {d d':Nat} {v:Value} {t:Tr} (h:TrP c w d v t) (hd:d<=d'):TrP c w d' v t:=TrQ.more h hd
theorem TrP.set {d k i:Nat} {v u:Value} {t:Tr} (h:TrP c w d v t) (hk:k<c):TrP c (w.setCell ⟨k,i,none⟩ u) d v t :=
 h.keep (by simp[World.setCell]) (fun j h1 h2=>Below.heap_setCell _ _ _ _ (fun e=>by simp only at e;omega))
theorem TrP.leaf (k:Int) (x a:Ln) (hk: -9223372036854775808<=k/\k<=9223372036854775807) (hx:x.length<=65536) (ha:a.length<=65536) (d:Nat):TrP c w (d+1) (lfV k x a) ⟨k,x,a,[]⟩ :=
 ⟨none,0,0,rfl,rfl,Nat.le_refl _,Nat.zero_le _,⟨hk.1,hk.2,by show x.length<=_;omega,by show a.length<=_;omega⟩,fun h=>absurd h (by omega)⟩
theorem TrP.cells {d:Nat} {v:Value} {t:Tr} (h:TrP c w d v t):∃ (k:Int) (x a:ByteArray) (ad:Option Addr) (len cap:Nat),v=.agg #[.int .i64 k,.string x,.string a,.slice ad len cap]:=by
 cases d with
 | zero=>exact h.elim
 | succ d =>
  obtain⟨ad,len,cap,e,_⟩:=h;exact⟨_,_,_,ad,len,cap,e⟩
def KdQ (P:Nat->Prop) (w:World) (d:Nat) (xs:List Value) (ks:List Tr):Prop :=
 xs.length=ks.length*4/\(∀ u∈xs,u.oneCell'=true)/\∀ i,i<ks.length->∃ c0 c1 c2 c3,xs[i*4]?=some c0/\xs[i*4+1]?=some c1/\xs[i*4+2]?=some c2/\xs[i*4+3]?=some c3/\TrQ P w d (.agg #[c0,c1,c2,c3]) (ks.getD i tr0)
theorem KdQ.nil (d:Nat):KdQ P w d [] []:=⟨rfl,fun u hu=>(by cases hu),fun i hi=>absurd hi (by simp)⟩
theorem KdQ.keep {d:Nat} {xs:List Value} {ks:List Tr} (h:KdQ P w d xs ks) (hs:w.heap.size<=w1.heap.size) (hk:∀ j,P j->j<w.heap.size->w1.heap[j]?=w.heap[j]?):KdQ P w1 d xs ks :=
 ⟨h.1,h.2.1,fun i hi=>by obtain⟨c0,c1,c2,c3,h0,h1,h2,h3,ht⟩:=h.2.2 i hi;exact⟨c0,c1,c2,c3,h0,h1,h2,h3,ht.keep hs hk⟩⟩
theorem KdQ.wide {d:Nat} {xs:List Value} {ks:List Tr} (h:KdQ P w d xs ks) (hP:∀ j,P j->j<w.heap.size->P' j):KdQ P' w d xs ks :=
 ⟨h.1,h.2.1,fun i hi=>by obtain⟨c0,c1,c2,c3,h0,h1,h2,h3,ht⟩:=h.2.2 i hi;exact⟨c0,c1,c2,c3,h0,h1,h2,h3,ht.wide hP⟩⟩
theorem KdQ.later {d:Nat} {xs:List Value} {ks:List Tr} (h:KdQ P w d xs ks) (hb:Below w.heap.size w w1):KdQ P w1 d xs ks:=h.keep hb.size (fun j _ hj=>hb.block j hj)
theorem KdQ.app {d:Nat} {xs ys:List Value} {ks js:List Tr} (h:KdQ P w d xs ks) (k:KdQ P w d ys js):KdQ P w d (xs++ys) (ks++js):=by
 refine⟨by rw[List.length_append,List.length_append,h.1,k.1];omega,fun u hu=>(List.mem_append.1 hu).elim (h.2.1 u) (k.2.1 u),fun i hi=> ?_⟩;rw[List.length_append]at hi;by_cases hlt:i<ks.length
 ·obtain⟨c0,c1,c2,c3,h0,h1,h2,h3,ht⟩:=h.2.2 i hlt;have hx:=h.1;refine⟨c0,c1,c2,c3,?_,?_,?_,?_,?_⟩
  ·rw[List.getElem?_append_left (by omega)];exact h0
  ·rw[List.getElem?_append_left (by omega)];exact h1
  ·rw[List.getElem?_append_left (by omega)];exact h2
  ·rw[List.getElem?_append_left (by omega)];exact h3
  ·rw[List.getD_eq_getElem?_getD,List.getElem?_append_left hlt,<-List.getD_eq_getElem?_getD];exact ht
 ·obtain⟨c0,c1,c2,c3,h0,h1,h2,h3,ht⟩:=k.2.2 (i-ks.length) (by omega);have hx:=h.1;refine⟨c0,c1,c2,c3,?_,?_,?_,?_,?_⟩
  ·rw[List.getElem?_append_right (by omega),hx,show i*4-ks.length*4=(i-ks.length)*4 by omega];exact h0
  ·rw[List.getElem?_append_right (by omega),hx,show i*4+1-ks.length*4=(i-ks.length)*4+1 by omega];exact h1
  ·rw[List.getElem?_append_right (by omega),hx,show i*4+2-ks.length*4=(i-ks.length)*4+2 by omega];exact h2
  ·rw[List.getElem?_append_right (by omega),hx,show i*4+3-ks.length*4=(i-ks.length)*4+3 by omega];exact h3
  ·rw[List.getD_eq_getElem?_getD,List.getElem?_append_right (by omega),<-List.getD_eq_getElem?_getD];exact ht
def Kd (c:Nat) (w:World) (d:Nat) (xs:List Value) (ks:List Tr):Prop:=KdQ (fun g=>c<=g) w d xs ks
theorem Kd.later {d:Nat} {xs:List Value} {ks:List Tr} (h:Kd c w d xs ks) (hb:Below w.heap.size w w1):Kd c w1 d xs ks:=KdQ.later h hb
theorem Kd.set {d k i:Nat} {u:Value} {xs:List Value} {ks:List Tr} (h:Kd c w d xs ks) (hk:k<c):Kd c (w.setCell ⟨k,i,none⟩ u) d xs ks :=
 KdQ.keep h (by simp[World.setCell]) (fun j h1 h2=>Below.heap_setCell _ _ _ _ (fun e=>by simp only at e;omega))
theorem Kd.mono {c' d:Nat} {xs:List Value} {ks:List Tr} (h:Kd c w d xs ks) (hc:c'<=c):Kd c' w d xs ks:=KdQ.wide h (fun j h1 _=>Nat.le_trans hc h1)
theorem Kd.app {d:Nat} {xs ys:List Value} {ks js:List Tr} (h:Kd c w d xs ks) (k:Kd c w d ys js):Kd c w d (xs++ys) (ks++js):=KdQ.app h k
theorem Kd.one {d:Nat} {k:Int} {x a:ByteArray} {ad:Option Addr} {len cap:Nat} {t:Tr} (h:TrP c w d (.agg #[.int .i64 k,.string x,.string a,.slice ad len cap]) t):Kd c w d [.int .i64 k,.string x,.string a,.slice ad len cap] [t]:=by
 refine⟨rfl,fun u hu=> ?_,fun i hi=> ?_⟩
 ·simp only[List.mem_cons,List.not_mem_nil,or_false]at hu;rcases hu with rfl | rfl | rfl | rfl<;>rfl
 ·have:i=0:=by simp at hi;omega
  subst this;exact⟨_,_,_,_,rfl,rfl,rfl,rfl,h⟩
theorem TrP.node {d n:Nat} {v:Value} {xs:List Value} {ks:List Tr} (hown:w.ownsRow c 24 4 v n xs) (hk:Kd c w d xs ks) (hn:n=ks.length) (k:Int) (hkb: -9223372036854775808<=k/\k<=9223372036854775807) (a:Ln) (ha:a.length<=65536) :
  ∃ ad len cap,v=.slice ad len cap/\TrP c w (d+1) (.agg #[.int .i64 k,.string (mk []),.string (mk a),.slice ad len cap]) ⟨k,[],a,ks⟩:=by
 obtain⟨hxl,hv⟩:=hown;rcases hv with ⟨rfl,h0⟩ | ⟨g,cap,cur,rfl,hg,hh,hnc,hcm,hcs,htk⟩
 ·have hk0:ks=[]:=List.length_eq_zero_iff.1 (by omega);subst hk0;exact⟨none,0,0,rfl,none,0,0,rfl,rfl,Nat.le_refl _,Nat.zero_le _,⟨hkb.1,hkb.2,by simp,by show a.length<=_;omega⟩,fun h=>absurd h (by omega)⟩
 ·refine⟨_,n,cap,rfl,_,n,cap,rfl,hn,hnc,hcm,⟨hkb.1,hkb.2,by simp,by show a.length<=_;omega⟩,fun _=>⟨g,0,rfl,hg,(Array.getElem?_eq_some_iff.1 hh).1,fun i hi=> ?_⟩⟩;obtain⟨c0,c1,c2,c3,h0,h1,h2,h3,ht⟩:=hk.2.2 i (by omega)
  have cc:∀ j u,j<n*4->xs[j]?=some u->w.cell? ⟨g,0+j,none⟩=some u:=fun j u hj hu=>by
   rw[Lib.cell_of_heap hh];rw[<-htk,List.getElem?_take_of_lt hj]at hu;simpa using hu
  exact⟨c0,c1,c2,c3,cc _ _ (by omega) h0,by have:=cc _ _ (by omega) h1;rwa [show 0+(i*4+1)=0+i*4+1 by omega]at this,by have:=cc _ _ (by omega) h2;rwa [show 0+(i*4+2)=0+i*4+2 by omega]at this,by have:=cc _ _ (by omega) h3;rwa [show 0+(i*4+3)=0+i*4+3 by omega]at this,ht⟩
def ValRes (b:Nat) (s:Ln) (dp:Nat) (w:World) (d:Nat) (r:Ot (Tr × Ln)) (e:Ending) (w':World):Prop:=match r with
 | .ok x=>∃ v,e=.returned (.tuple #[v,f0])/\TrP w.heap.size w' d v x.1/\(∃ q,q<=s.length/\x.2=s.drop q/\Rd w' b s q dp)/\Fr b w w'
 | .error f=>∃ (v:Value) (t:Tr),TrP w.heap.size w' 1 v t/\e=.returned (.tuple #[v,fv s.length f])/\Fr b w w'
def PrtRes (b:Nat) (s:Ln) (dp:Nat) (w:World) (d:Nat) (r:Ot (List Tr × Ln)) (e:Ending) (w':World):Prop:=match r with
 | .ok x=>∃ (g m:Nat) (ys:List Value),e=.returned (.tuple #[.slice (some ⟨g,0,none⟩) m m,f0])/\m=x.1.length/\m<=2/\Bx w' g ys.toArray 24/\w.heap.size<=g/\Kd w.heap.size w' d ys x.1/\(∃ q,q<=s.length/\x.2=s.drop q/\Rd w' b s q dp)/\Fr b w w'
 | .error f=>∃ (ad:Option Addr) (m:Nat),e=.returned (.tuple #[.slice ad m m,fv s.length f])/\Fr b w w'
end Flw
end Go.Proofs.YtidhpmcmbooaoaaGreatDoor
