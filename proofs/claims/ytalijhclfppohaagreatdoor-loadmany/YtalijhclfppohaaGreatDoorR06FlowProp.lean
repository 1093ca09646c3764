/- . -/
import Derived.Test.YtalijhclfppohaaGreatDoorR05UtfLeaf
import Derived.Deep.Cut
import Derived.BigRegion
set_option linter.unusedSimpArgs false
set_option linter.unusedVariables false
set_option maxRecDepth 100000
namespace Go.Proofs.YtalijhclfppohaaGreatDoor
namespace Flw
open Utf Rws Pln
open Go.RowKit
set_option maxHeartbeats 4000000
variable {b p dp:Nat} {s:Ln} {w w1 w2:World}
def Bx (w:World) (k:Nat) (cs:Array Value) (t:TypeId):Prop:=w.heap[k]?=some (.cells cs t (0,0))
theorem Bx.cell {k:Nat} {cs:Array Value} {t:TypeId} (h:Bx w k cs t) (i:Nat):w.cell? ⟨k,i,none⟩=cs[i]?:=Lib.cell_of_heap h i
theorem Bx.c2 {k:Nat} {a0 a1:Value} {t:TypeId} (h:Bx w k #[a0,a1] t):w.cell? ⟨k,0,none⟩=some a0/\w.cell? ⟨k,1,none⟩=some a1:=⟨h.cell 0,h.cell 1⟩
theorem Bx.c3 {k:Nat} {a0 a1 a2:Value} {t:TypeId} (h:Bx w k #[a0,a1,a2] t):w.cell? ⟨k,0,none⟩=some a0/\w.cell? ⟨k,1,none⟩=some a1/\w.cell? ⟨k,2,none⟩=some a2:=⟨h.cell 0,h.cell 1,h.cell 2⟩
theorem Bx.c4 {k:Nat} {a0 a1 a2 a3:Value} {t:TypeId} (h:Bx w k #[a0,a1,a2,a3] t):w.cell? ⟨k,0,none⟩=some a0/\w.cell? ⟨k,1,none⟩=some a1/\w.cell? ⟨k,2,none⟩=some a2/\w.cell? ⟨k,3,none⟩=some a3:=⟨h.cell 0,h.cell 1,h.cell 2,h.cell 3⟩
theorem Bx.c5 {k:Nat} {a0 a1 a2 a3 a4:Value} {t:TypeId} (h:Bx w k #[a0,a1,a2,a3,a4] t):w.cell? ⟨k,0,none⟩=some a0/\w.cell? ⟨k,1,none⟩=some a1/\w.cell? ⟨k,2,none⟩=some a2/\w.cell? ⟨k,3,none⟩=some a3/\w.cell? ⟨k,4,none⟩=some a4:=⟨h.cell 0,h.cell 1,h.cell 2,h.cell 3,h.cell 4⟩
theorem Bx.fz {k:Nat} {cs:Array Value} {t:TypeId} (h:Bx w k cs t) (i:Nat):w.frozen? ⟨k,i,none⟩=false:=Lib.frozen_of_heap h i
theorem Bx.lt {k:Nat} {cs:Array Value} {t:TypeId} (h:Bx w k cs t):k<w.heap.size:=(Array.getElem?_eq_some_iff.1 h).1
theorem Bx.fr {k:Nat} {cs:Array Value} {t:TypeId} (h:Bx w k cs t) (f:Fr b w w1) (hb:b<k):Bx w1 k cs t:=(f.2 k hb h.lt).trans h
theorem Bx.later {k:Nat} {cs:Array Value} {t:TypeId} (h:Bx w k cs t) (f:Below w.heap.size w w1):Bx w1 k cs t:=(f.block k h.lt).trans h
theorem Bx.set {k:Nat} {cs:Array Value} {t:TypeId} (h:Bx w k cs t) (i:Nat) (x:Value):Bx (w.setCell ⟨k,i,none⟩ x) k (cs.setIfInBounds i x) t:=by
 unfold Bx at *;rw[setCell_eq_setRow w k i _ _ (0,0) _ h,setRow_heap w k _ _ _ _ h]
theorem Bx.other {k:Nat} {cs:Array Value} {t:TypeId} (h:Bx w k cs t) {j:Nat} (hj:k≠j) (i:Nat) (x:Value):Bx (w.setCell ⟨j,i,none⟩ x) k cs t:=(Below.heap_setCell _ _ _ _ hj).trans h
theorem Bx.new (w:World) (cs:Array Value) (t:TypeId):Bx (w.alloc (.cells cs t)) w.heap.size cs t:=heap_alloc_new w _
theorem Bx.drew {k:Nat} {cs:Array Value} {t:TypeId} (h:Bx w k cs t) (n:Nat):Bx (w.drewN n) k cs t:=h
def plc (b:Nat) (w:World):Nat:=(intOf ((w.cell? ⟨b,1,none⟩).getD (.int .i64 0))).toNat
theorem Rd.plc (h:Rd w b s p dp):plc b w=p:=by unfold Flw.plc;rw[h.c1];simp[intOf]
def zF:Array Value:=#[.int .i64 0,.int .i64 0]
def zP:Array Value:=#[.string ⟨#[]⟩,.int .i64 0,.int .i64 0]
def prC (a:Ln) (t:Int) (T:Nat):Array Value:=#[.string (mk a),.int .i64 t,.int .i64 (T:Int)]
def PrpRes (b:Nat) (s:Ln) (dp:Nat) (w:World) (r:Ot (Pr × Ln)) (e:Ending) (w':World):Prop:=match r with
 | .ok x=>(∃ T:Nat,T<=s.length/\(x.1.tag≠0->T=s.length-x.1.at_)/\e=.returned (.tuple #[.agg (prC x.1.anc x.1.tag T),f0]))/\(∃ q,q<=s.length/\x.2=s.drop q/\Rd w' b s q dp)/\Fr b w w'
 | .error f=>e=.returned (.tuple #[.agg zP,fv s.length f])/\Fr b w w'
structure Ks (b n K0 K1 K2:Nat):Prop where
 hb:b<n
 h0:n<=K0
 h1:K0<K1
 h2:K1<K2
structure Sta (w0 w:World) (b:Nat) (s:Ln) (q dp K0 K1 K2 KF:Nat) (a:Ln) (t:Int) (T:Nat) (fc:Array Value):Prop where
 rd:Rd w b s q dp
 k0:Bx w K0 zP 193
 k1:Bx w K1 zF 32
 k2:Bx w K2 (prC a t T) 193
 kf:Bx w KF fc 32
 fr:Fr b w0 w
 ks:Ks b w0.heap.size K0 K1 K2
 hf:K2<KF
variable {q q' K0 K1 K2 KF T:Nat} {a:Ln} {t:Int} {fc:Array Value} {w0:World}
theorem Sta.step (h:Sta w0 w b s q dp K0 K1 K2 KF a t T fc) (hr:Rd w1 b s q' dp) (hf:Fr b w w1):Sta w0 w1 b s q' dp K0 K1 K2 KF a t T fc:=by
 have:=h.ks.hb;have:=h.ks.h0;have:=h.ks.h1;have:=h.ks.h2;have:=h.hf;exact⟨hr,h.k0.fr hf (by omega),h.k1.fr hf (by omega),h.k2.fr hf (by omega),h.kf.fr hf (by omega),h.fr.trans hf,h.ks,h.hf⟩
theorem Sta.later (h:Sta w0 w b s q dp K0 K1 K2 KF a t T fc) (hb:Below w.heap.size w w1):Sta w0 w1 b s q dp K0 K1 K2 KF a t T fc:=h.step (h.rd.later hb) (Fr.of hb h.rd.lt)
theorem Sta.drew (h:Sta w0 w b s q dp K0 K1 K2 KF a t T fc) (n:Nat):Sta w0 (w.drewN n) b s q dp K0 K1 K2 KF a t T fc:=h.later (below_drewN (Below.refl _ _) n)
theorem Sta.setK2 (h:Sta w0 w b s q dp K0 K1 K2 KF a t T fc) (i:Nat) (x:Value) {a':Ln} {t':Int} {T':Nat} (e:(prC a t T).setIfInBounds i x=prC a' t' T'):Sta w0 (w.setCell ⟨K2,i,none⟩ x) b s q dp K0 K1 K2 KF a' t' T' fc:=by
 have:=h.ks.hb;have:=h.ks.h0;have:=h.ks.h1;have:=h.ks.h2;have:=h.hf;exact⟨h.rd.other (by omega) _ _,h.k0.other (by omega) _ _,h.k1.other (by omega) _ _,e▸h.k2.set i x,h.kf.other (by omega) _ _,h.fr.new (by omega) (by omega) _ _,h.ks,h.hf⟩
theorem Sta.setKF (h:Sta w0 w b s q dp K0 K1 K2 KF a t T fc) (x y:Value) (hz:fc.size=2):Sta w0 ((w.setCell ⟨KF,0,none⟩ x).setCell ⟨KF,1,none⟩ y) b s q dp K0 K1 K2 KF a t T #[x,y]:=by
 have:=h.ks.hb;have:=h.ks.h0;have:=h.ks.h1;have:=h.ks.h2;have:=h.hf
 have e:(fc.setIfInBounds 0 x).setIfInBounds 1 y=#[x,y]:=by
  obtain⟨l⟩:=fc
  match l,hz with
  | [u,v],_=>rfl
 exact⟨(h.rd.other (by omega) _ _).other (by omega) _ _,(h.k0.other (by omega) _ _).other (by omega) _ _,(h.k1.other (by omega) _ _).other (by omega) _ _,(h.k2.other (by omega) _ _).other (by omega) _ _,e▸(h.kf.set 0 x).set 1 y,
  (h.fr.new (by omega) (by omega) _ _).new (by omega) (by omega) _ _,h.ks,h.hf⟩
def fill (w:World) (K0 K1:Nat) (x0 x1 x2 y0 y1:Value):World:=((((w.setCell ⟨K0,0,none⟩ x0).setCell ⟨K0,1,none⟩ x1).setCell ⟨K0,2,none⟩ x2).setCell ⟨K1,0,none⟩ y0).setCell ⟨K1,1,none⟩ y1
theorem Sta.out (h:Sta w0 w b s q dp K0 K1 K2 KF a t T fc) (x0 x1 x2 y0 y1:Value) :
  Rd (fill w K0 K1 x0 x1 x2 y0 y1) b s q dp/\Fr b w0 (fill w K0 K1 x0 x1 x2 y0 y1)/\Bx (fill w K0 K1 x0 x1 x2 y0 y1) K0 #[x0,x1,x2] 193/\Bx (fill w K0 K1 x0 x1 x2 y0 y1) K1 #[y0,y1] 32:=by
 have:=h.ks.hb;have:=h.ks.h0;have:=h.ks.h1;have:=h.ks.h2;have:=h.hf
 exact⟨((((h.rd.other (by omega) _ _).other (by omega) _ _).other (by omega) _ _).other (by omega) _ _).other (by omega) _ _,
  ((((h.fr.new (by omega) (by omega) _ _).new (by omega) (by omega) _ _).new (by omega) (by omega) _ _).new (by omega) (by omega) _ _).new (by omega) (by omega) _ _,
  ((((h.k0.set 0 x0).set 1 x1).set 2 x2).other (by omega) _ _).other (by omega) _ _,
  ((((h.k1.other (by omega) _ _).other (by omega) _ _).other (by omega) _ _).set 0 y0).set 1 y1⟩
structure Stb (w0 w:World) (b:Nat) (K0 K1 K2 KF:Nat) (pc fc:Array Value):Prop where
 k0:Bx w K0 zP 193
 k1:Bx w K1 zF 32
 k2:Bx w K2 pc 193
 kf:Bx w KF fc 32
 fr:Fr b w0 w
 ks:Ks b w0.heap.size K0 K1 K2
 hf:K2<KF
theorem Sta.err (h:Sta w0 w b s q dp K0 K1 K2 KF a t T fc) (hf:Fr b w w1):Stb w0 w1 b K0 K1 K2 KF (prC a t T) fc:=by
 have:=h.ks.hb;have:=h.ks.h0;have:=h.ks.h1;have:=h.ks.h2;have:=h.hf;exact⟨h.k0.fr hf (by omega),h.k1.fr hf (by omega),h.k2.fr hf (by omega),h.kf.fr hf (by omega),h.fr.trans hf,h.ks,h.hf⟩
theorem Stb.setK2 {pc:Array Value} (h:Stb w0 w b K0 K1 K2 KF pc fc) (i:Nat) (x:Value):Stb w0 (w.setCell ⟨K2,i,none⟩ x) b K0 K1 K2 KF (pc.setIfInBounds i x) fc:=by
 have:=h.ks.hb;have:=h.ks.h0;have:=h.ks.h1;have:=h.ks.h2;have:=h.hf;exact⟨h.k0.other (by omega) _ _,h.k1.other (by omega) _ _,h.k2.set i x,h.kf.other (by omega) _ _,h.fr.new (by omega) (by omega) _ _,h.ks,h.hf⟩
theorem Stb.setKF {pc:Array Value} (h:Stb w0 w b K0 K1 K2 KF pc fc) (x y:Value) (hz:fc.size=2):Stb w0 ((w.setCell ⟨KF,0,none⟩ x).setCell ⟨KF,1,none⟩ y) b K0 K1 K2 KF pc #[x,y]:=by
 have:=h.ks.hb;have:=h.ks.h0;have:=h.ks.h1;have:=h.ks.h2;have:=h.hf
 have e:(fc.setIfInBounds 0 x).setIfInBounds 1 y=#[x,y]:=by
  obtain⟨l⟩:=fc
  match l,hz with
  | [u,v],_=>rfl
 exact⟨(h.k0.other (by omega) _ _).other (by omega) _ _,(h.k1.other (by omega) _ _).other (by omega) _ _,(h.k2.other (by omega) _ _).other (by omega) _ _,e▸(h.kf.set 0 x).set 1 y,
  (h.fr.new (by omega) (by omega) _ _).new (by omega) (by omega) _ _,h.ks,h.hf⟩
theorem Stb.later {pc:Array Value} (h:Stb w0 w b K0 K1 K2 KF pc fc) (hb:Below w.heap.size w w1):Stb w0 w1 b K0 K1 K2 KF pc fc :=
 ⟨h.k0.later hb,h.k1.later hb,h.k2.later hb,h.kf.later hb,h.fr.trans (Fr.of hb (by have:=h.k0.lt;have:=h.ks.hb;have:=h.ks.h0;omega)),h.ks,h.hf⟩
theorem Stb.out {pc:Array Value} (h:Stb w0 w b K0 K1 K2 KF pc fc) (x0 x1 x2 y0 y1:Value) :
  True/\Fr b w0 (fill w K0 K1 x0 x1 x2 y0 y1)/\Bx (fill w K0 K1 x0 x1 x2 y0 y1) K0 #[x0,x1,x2] 193/\Bx (fill w K0 K1 x0 x1 x2 y0 y1) K1 #[y0,y1] 32:=by
 have:=h.ks.hb;have:=h.ks.h0;have:=h.ks.h1;have:=h.ks.h2;have:=h.hf
 exact⟨trivial,
  ((((h.fr.new (by omega) (by omega) _ _).new (by omega) (by omega) _ _).new (by omega) (by omega) _ _).new (by omega) (by omega) _ _).new (by omega) (by omega) _ _,
  ((((h.k0.set 0 x0).set 1 x1).set 2 x2).other (by omega) _ _).other (by omega) _ _,
  ((((h.k1.other (by omega) _ _).other (by omega) _ _).other (by omega) _ _).set 0 y0).set 1 y1⟩
theorem see_hd (s:Ln) (q:Nat) {c:UInt8} (hc:c≠0):see s q [c]=decide (hd (gaps (s.drop q))=c):=by
 unfold see hd
 cases gaps (s.drop q)with
 | nil=>simpa using fun e=>hc e.symm
 | cons x r=>rw[Bool.eq_iff_iff];simp
theorem see_two (s:Ln) (q:Nat) {c:UInt8} (hc:c≠0):see s q [c,c]=decide (hd (gaps (s.drop q))=c/\hd ((gaps (s.drop q)).drop 1)=c):=by
 unfold see hd
 match gaps (s.drop q)with
 | []=>simpa using fun e=>absurd e.symm hc
 | [x]=>simpa using fun _ e=>hc e.symm
 | x::y::r=>rw[Bool.eq_iff_iff];simp
theorem properties_any (f:Bool) (h:Rd w b s p dp) (hp:p<=s.length) (hs:s.length<=65536) :
  Calls Tryz.prog 149 #[.pointer (some ⟨b,0,none⟩),.bool f] w fun e w'=>PrpRes b s dp w (lprp f 3 p0 (s.drop p)) e w':=by
 obtain⟨R,HR0⟩:∃ R,Hid (R=lprp f 3 p0 (s.drop p)):=⟨_,rfl⟩;rw[<-HR0.out];have hlt:=h.lt
 have HS0:Hid (Rd (((w.alloc (.cells zP 193)).alloc (.cells zF 32)).alloc (.cells zP 193)) b s p dp/\Bx (((w.alloc (.cells zP 193)).alloc (.cells zF 32)).alloc (.cells zP 193)) w.heap.size zP 193/\Bx (((w.alloc (.cells zP 193)).alloc (.cells zF 32)).alloc (.cells zP 193)) (w.heap.size+1) zF 32/\Bx (((w.alloc (.cells zP 193)).alloc (.cells zF 32)).alloc (.cells zP 193)) (w.heap.size+1+1) (prC [] 0 0) 193/\Fr b w (((w.alloc (.cells zP 193)).alloc (.cells zF 32)).alloc (.cells zP 193))):=by
  have b1:=below_alloc w (.cells zP 193);have b2:=below_alloc (w.alloc (.cells zP 193)) (.cells zF 32);have b3:=below_alloc ((w.alloc (.cells zP 193)).alloc (.cells zF 32)) (.cells zP 193);have e1:(w.alloc (.cells zP 193)).heap.size=w.heap.size+1:=by simp
  have e2:((w.alloc (.cells zP 193)).alloc (.cells zF 32)).heap.size=w.heap.size+1+1:=by simp
  have x0:=((Bx.new w zP 193).later b2).later b3;have x1:=(Bx.new (w.alloc (.cells zP 193)) zF 32).later b3;have x2:=Bx.new ((w.alloc (.cells zP 193)).alloc (.cells zF 32)) zP 193;rw[e1]at x1;rw[e2]at x2;exact⟨((h.later b1).later b2).later b3,x0,x1,x2,Fr.of (b1.trans ((b2.mono (by rw[e1];omega)).trans (b3.mono (by rw[e2];omega)))) hlt⟩
 clear h;go_enter Tryz.func149,Tryz.ntmps149;go_wp2;change Code.wp _ _ _ _ (((w.alloc (.cells zP 193)).alloc (.cells zF 32)).alloc (.cells zP 193));generalize ((w.alloc (.cells zP 193)).alloc (.cells zF 32)).alloc (.cells zP 193)=W0 at HS0 |-;have HK:Hid (Ks b w.heap.size w.heap.size (w.heap.size+1) (w.heap.size+1+1)):=⟨hlt,Nat.le_refl _,by omega,by omega⟩;obtain⟨N,hN⟩:∃ N,N=w.heap.size:=⟨_,rfl⟩;generalize hK2:w.heap.size+1+1=K2 at HK HS0 |-;generalize hK1:w.heap.size+1=K1 at HK HS0 |-;rw[<-hN]at HK hlt;generalize hK0:w.heap.size=K0 at HK HS0 |-;clear hK2 hK1;have HK':Hid (Ks b w.heap.size K0 K1 K2):=by rw[hN,hK0]at HK;rw[hK0];exact HK
 clear HK hK0 hN hlt;clear N
 go_loopw [] (fun wr=>∃ (P:Pr) (q T n:Nat),q<=s.length/\T<=s.length/\(Rd wr b s q dp/\Bx wr K0 zP 193/\Bx wr K1 zF 32/\Bx wr K2 (prC P.anc P.tag T) 193/\Fr b w wr) /\
  (P.tag≠0->T=s.length-P.at_)/\(0<=P.tag/\P.tag<=6)/\(P.anc=[]->P.tag=0->2<=n)/\(P.anc=[]\/P.tag=0->1<=n)/\R=lprp f (n+1) P (s.drop q)) (fun wr=>s.length-plc b wr)
 case atStart=>exact⟨p0,p,0,2,hp,Nat.zero_le _,HS0.out,fun e=>absurd rfl e,⟨by decide,by decide⟩,fun _ _=>by decide,fun _=>by decide,HR0.out⟩
 case round =>
  clear HS0 HR0;clear W0;obtain⟨P,q,T,n,hq,hT,⟨hr,x0,x1,x2,hfr⟩,hat,htag,hn2,hn1,hE⟩:=hrel;obtain⟨a,t,at_,sm⟩:=P;simp only at hat htag hn2 hn1 x2;have HE:Hid (R=lprp f (n+1) ⟨a,t,at_,sm⟩ (s.drop q)):=hE;have HAT:Hid (t≠0->T=s.length-at_):=hat;have HN2:Hid (a=[]->t=0->2<=n):=hn2;have HN1:Hid (a=[]\/t=0->1<=n):=hn1;have hxs:=x2.lt;have hba:=below_alloc wr (.cells zF 32)
  have HS:Hid (Sta w (wr.alloc (.cells zF 32)) b s q dp K0 K1 K2 wr.heap.size a t T zF) :=
   ⟨hr.later hba,x0.later hba,x1.later hba,x2.later hba,Bx.new _ _ _,hfr.trans (Fr.of hba hr.lt),HK'.out,hxs⟩
  have HPL:Hid (plc b wr=q):=hr.plc;clear hr x0 x1 x2 hfr hat hn2 hn1 hE hba hxs;have hat1:((mk a).toList==[])=(a==[]):=by rw[ByteArray.toList_eq,mk_data]
  obtain⟨W1,hW1⟩:∃ W1,wr.alloc (.cells #[.int .i64 0,.int .i64 0] 32)=W1:=⟨_,rfl⟩;have HS1:Hid (Sta w W1 b s q dp K0 K1 K2 wr.heap.size a t T zF):=by rw[<-hW1];exact HS.out
  clear HS;have g0:W1.cell? ⟨K2,0,none⟩=some (.string (mk a)):=HS1.out.k2.cell 0;have g1:W1.cell? ⟨K2,1,none⟩=some (.int .i64 t):=HS1.out.k2.cell 1;have hd10:K1≠K0:=by have:=HK'.out.h1;omega
  have hd01:K0≠K1:=by omega
  by_cases cA:a=[]/\hd (gaps (s.drop q))=38
  ·have hq1:nx s q+1<=s.length:=by
    have h1:=gaps_nx s hq
    have h2:1<=(gaps (s.drop q)).length:=by
     have:=(hd_ne (l:=gaps (s.drop q)) (by rw[cA.2];decide)).2;omega
    omega
   have hdr:s.drop (nx s q+1)=(gaps (s.drop q)).drop 1:=by rw[<-List.drop_drop,drop_nx s hq]
   have HE1:Hid (R=bnd (nam (s.drop (nx s q+1))) fun x=>if ends f x.2=true then lprp f n ⟨x.1,t,at_,true⟩ x.2 else .error (3,x.2.length)):=by
    have:=HE.out;unfold lprp at this;rw[if_pos cA]at this;rw[hdr];exact this
   have HYT:Hid (∀ k,Calls Tryz.prog 147 #[.pointer (some ⟨b,0,none⟩),.string ⟨#[38]⟩] (W1.drewN k) fun e w'=>e=.returned (.bool true)/\Hid (Sta w w' b s (nx s q+1) dp K0 K1 K2 wr.heap.size a t T zF)):=fun k =>
    (takes_yes [38] (HS1.out.rd.drew k) hq hs (by decide) (by rw[see_hd s q (by decide)];simpa using cA.2)).mono (fun e w' h=>⟨h.1,(HS1.out.drew k).step h.2.1 h.2.2⟩)
   have ha:=cA.1;clear cA HE hdr;subst ha;go_wp2_with fail;refine(HYT.out 0).mono ?_;rintro e w1 ⟨rfl,HS2⟩;have hqq:q<nx s q+1:=by have:=nx_ge s hq;omega
   generalize nx s q+1=q1 at *;have HNM:Hid (Calls Tryz.prog 148 #[.pointer (some ⟨b,0,none⟩)] w1 fun e w'=>NamRes b s dp w1 (nam (s.drop q1)) e w'):=name_any HS2.out.rd hq1 hs;have HBD:Hid (∀ e,nam (s.drop q1)=.error e->e.1≠0):=nam_bad _;generalize hres:nam (s.drop q1)=res at HNM HE1 HBD
   cases res with
   | error F =>
    clear hres;have HV:Hid (R=.error F):=HE1.out;have hF0:((F.1:Int)==0)=false:=by have:=HBD.out F rfl;rw[beq_eq_false_iff_ne];omega
    have hF1:((F.1:Int)!=0)=true:=by simpa using hF0
    clear HE1 HBD;go_wp2_with fail;refine HNM.out.mono ?_;rintro e w3 ⟨rfl,hfr3⟩;unfold fv;have HB3:Hid (Stb w w3 b K0 K1 K2 wr.heap.size (prC [] t T) zF):=HS2.out.err hfr3;clear hfr3 HS2 HNM HYT;obtain⟨w4,hw4⟩:∃ w4,((w3.setCell ⟨K2,0,none⟩ (.string (mk []))).setCell ⟨wr.heap.size,0,none⟩ (.int .i64 (F.1:Int))).setCell ⟨wr.heap.size,1,none⟩ (.int .i64 ((s.length-F.2:Nat):Int))=w4:=⟨_,rfl⟩;have HB4:=(HB3.out.setK2 0 (.string (mk []))).setKF (.int .i64 (F.1:Int)) (.int .i64 ((s.length-F.2:Nat):Int)) rfl;rw[hw4]at HB4;have HB4:Hid _:=HB4;have e0:w3.cell? ⟨K2,0,none⟩=some (.string (mk [])):=HB3.out.k2.cell 0;have e1:w3.frozen? ⟨K2,0,none⟩=false:=HB3.out.k2.fz 0;obtain⟨e2,e3⟩:=HB3.out.kf.c2;have e4:w3.frozen? ⟨wr.heap.size,0,none⟩=false:=HB3.out.kf.fz 0;have e5:w3.frozen? ⟨wr.heap.size,1,none⟩=false:=HB3.out.kf.fz 1;have hne1:wr.heap.size≠K2:=by have:=HB3.out.hf;omega
    have hne2:K2≠wr.heap.size:=by omega
    have hne3:wr.heap.size≠K0:=by have:=HB3.out.ks.h1;have:=HB3.out.ks.h2;have:=HB3.out.hf;omega
    have hne4:K0≠wr.heap.size:=by omega
    have hne5:wr.heap.size≠K1:=by have:=HB3.out.ks.h2;have:=HB3.out.hf;omega
    have hne6:K1≠wr.heap.size:=by omega
    clear HB3;obtain⟨i0,i1⟩:=HB4.out.kf.c2;obtain⟨X0,X1,X2⟩:=(HB4.out).k0.c3;obtain⟨Y0,Y1⟩:=(HB4.out).k1.c2;have Z0:w4.frozen? ⟨K0,0,none⟩=false:=(HB4.out).k0.fz 0;have Z1:w4.frozen? ⟨K0,1,none⟩=false:=(HB4.out).k0.fz 1;have Z2:w4.frozen? ⟨K0,2,none⟩=false:=(HB4.out).k0.fz 2;have V0:w4.frozen? ⟨K1,0,none⟩=false:=(HB4.out).k1.fz 0;have V1:w4.frozen? ⟨K1,1,none⟩=false:=(HB4.out).k1.fz 1;go_wp2;go_region
    all_goals
     go_wp2;have hO:=(HB4.out).out (.string ⟨#[]⟩) (.int .i64 0) (.int .i64 0) (.int .i64 (F.1:Int)) (.int .i64 ((s.length-F.2:Nat):Int));change bodyPost _ _ _ _ _ (fill w4 K0 K1 (.string ⟨#[]⟩) (.int .i64 0) (.int .i64 0) (.int .i64 (F.1:Int)) (.int .i64 ((s.length-F.2:Nat):Int))).drew;generalize fill w4 K0 K1 (.string ⟨#[]⟩) (.int .i64 0) (.int .i64 0) (.int .i64 (F.1:Int)) (.int .i64 ((s.length-F.2:Nat):Int))=WF at hO |-;obtain⟨o1,o2,o3,o4⟩:=hO;have j0:WF.drew.cell? ⟨K0,0,none⟩=_:=o3.cell 0;have j1:WF.drew.cell? ⟨K0,1,none⟩=_:=o3.cell 1;have j2:WF.drew.cell? ⟨K0,2,none⟩=_:=o3.cell 2;have j3:WF.drew.cell? ⟨K1,0,none⟩=_:=o4.cell 0;have j4:WF.drew.cell? ⟨K1,1,none⟩=_:=o4.cell 1;refine bodyPost_ret (v:=.tuple #[.agg #[.string ⟨#[]⟩,.int .i64 0,.int .i64 0],.agg #[.int .i64 (F.1:Int),.int .i64 ((s.length-F.2:Nat):Int)]]) (by simp[results,Tryz.results149,go_sem,j0,j1,j2,j3,j4]) rfl ?_;rw[HV.out];exact⟨rfl,o2.drew⟩
   | ok x =>
    obtain⟨x1,x2⟩:=x;have HOK:=HBD;clear HBD HOK;go_wp2_with fail;refine HNM.out.mono ?_;rintro e w3 ⟨rfl,⟨q2,hq2,hx2,hr3⟩,hfr3⟩;simp only at hx2;subst hx2;have HS4:Hid (Sta w w3 b s q2 dp K0 K1 K2 wr.heap.size [] t T zF):=HS2.out.step hr3 hfr3;clear hr3 hfr3 HS2 HNM HYT;unfold f0;simp only[];have hxn:=nam_inv hres;simp only[List.length_drop]at hxn;have HNA:Hid (isName x1=true):=hxn.1;have hq12:q1<=q2:=by omega
    clear hxn;clear hres;obtain⟨w4,hw4⟩:∃ w4,((w3.setCell ⟨K2,0,none⟩ (.string (mk x1))).setCell ⟨wr.heap.size,0,none⟩ (.int .i64 0)).setCell ⟨wr.heap.size,1,none⟩ (.int .i64 0)=w4:=⟨_,rfl⟩;have hS5:Sta w (((w3.setCell ⟨K2,0,none⟩ (.string (mk x1))).setCell ⟨wr.heap.size,0,none⟩ (.int .i64 0)).setCell ⟨wr.heap.size,1,none⟩ (.int .i64 0)) b s q2 dp K0 K1 K2 wr.heap.size x1 t T #[.int .i64 0,.int .i64 0]:=(HS4.out.setK2 0 (.string (mk x1)) rfl).setKF (.int .i64 0) (.int .i64 0) rfl;rw[hw4]at hS5;have HS5:Hid (Sta w w4 b s q2 dp K0 K1 K2 wr.heap.size x1 t T #[.int .i64 0,.int .i64 0]):=hS5;clear hS5;have e0:w3.cell? ⟨K2,0,none⟩=some (.string (mk [])):=HS4.out.k2.cell 0;have e1:w3.frozen? ⟨K2,0,none⟩=false:=HS4.out.k2.fz 0;obtain⟨e2,e3⟩:=HS4.out.kf.c2;have e4:w3.frozen? ⟨wr.heap.size,0,none⟩=false:=HS4.out.kf.fz 0;have e5:w3.frozen? ⟨wr.heap.size,1,none⟩=false:=HS4.out.kf.fz 1;have hne1:wr.heap.size≠K2:=by have:=HS4.out.hf;omega
    have hne2:K2≠wr.heap.size:=by omega
    clear HS4;obtain⟨i0,i1⟩:=HS5.out.kf.c2;have i2:w4.frozen? ⟨wr.heap.size,0,none⟩=false:=HS5.out.kf.fz 0;have i3:w4.frozen? ⟨wr.heap.size,1,none⟩=false:=HS5.out.kf.fz 1;have i4:=HS5.out.rd.c1;obtain⟨E,HEE⟩:∃ E,Hid (E=ends f (s.drop q2)):=⟨_,rfl⟩;have HEW:Hid (Calls Tryz.prog 168 #[.pointer (some ⟨b,0,none⟩),.bool f] w4 fun e w'=>e=.returned (.bool E)/\∃ n,w'=w4.drewN n):=by rw[HEE.out];exact endsWord_any f HS5.out.rd hq2 hs
    cases E
    ·have HV:Hid (R=.error (stands (s.drop q2))):=by
      have:=HE1.out;rw[bnd_ok]at this;simp only at this;rw[if_neg (by rw[<-HEE.out];decide)]at this;rw[this]
      have hne:s.drop q2≠[]:=by
       intro e;have h2:=HEE.out;rw[e]at h2;exact absurd h2 (by unfold ends;simp)
      show Except.error _=Except.error _;unfold stands;rw[if_neg hne]
     have HWA:Hid (∀ k,Calls Tryz.prog 166 #[.pointer (some ⟨b,0,none⟩),.int .i64 (q2:Int)] (w4.drewN k) fun e w'=>e=.returned (fv s.length (stands (s.drop q2)))/\Below (w4.drewN k).heap.size (w4.drewN k) w'):=fun k=>wrongAt_any q2 (HS5.out.rd.drew k) hq2 hs
     have hF:=stands_ne (s.drop q2);generalize stands (s.drop q2)=F at *;have hF1:((F.1:Int)!=0)=true:=by simpa using hF
     clear HE1 HEE;go_wp2_with (go_at_call 168;refine HEW.out.mono ?_;rintro e w' ⟨rfl,n3,rfl⟩);refine(HWA.out _).mono ?_;rintro e w5 ⟨rfl,hb5⟩;unfold fv;have HB6:=((HS5.out.drew n3).later hb5).err Fr.refl;obtain⟨k0,k1⟩:=HB6.kf.c2;have k2:w5.frozen? ⟨wr.heap.size,0,none⟩=false:=HB6.kf.fz 0;have k3:w5.frozen? ⟨wr.heap.size,1,none⟩=false:=HB6.kf.fz 1;have HB7:=HB6.setKF (.int .i64 (F.1:Int)) (.int .i64 ((s.length-F.2:Nat):Int)) rfl;obtain⟨w6,hw6⟩:∃ w6,(w5.setCell ⟨wr.heap.size,0,none⟩ (.int .i64 (F.1:Int))).setCell ⟨wr.heap.size,1,none⟩ (.int .i64 ((s.length-F.2:Nat):Int))=w6:=⟨_,rfl⟩;rw[hw6]at HB7;have HB7:Hid _:=HB7;clear HB6 HS5;obtain⟨l0,l1⟩:=HB7.out.kf.c2;obtain⟨X0,X1,X2⟩:=(HB7.out).k0.c3;obtain⟨Y0,Y1⟩:=(HB7.out).k1.c2;have Z0:w6.frozen? ⟨K0,0,none⟩=false:=(HB7.out).k0.fz 0;have Z1:w6.frozen? ⟨K0,1,none⟩=false:=(HB7.out).k0.fz 1;have Z2:w6.frozen? ⟨K0,2,none⟩=false:=(HB7.out).k0.fz 2;have V0:w6.frozen? ⟨K1,0,none⟩=false:=(HB7.out).k1.fz 0;have V1:w6.frozen? ⟨K1,1,none⟩=false:=(HB7.out).k1.fz 1;have hne3:wr.heap.size≠K0:=by have:=HB7.out.ks.h1;have:=HB7.out.ks.h2;have:=HB7.out.hf;omega
     have hne4:K0≠wr.heap.size:=by omega
     have hne5:wr.heap.size≠K1:=by have:=HB7.out.ks.h2;have:=HB7.out.hf;omega
     have hne6:K1≠wr.heap.size:=by omega
     go_wp2;go_region
     all_goals
      go_wp2;have hO:=(HB7.out).out (.string ⟨#[]⟩) (.int .i64 0) (.int .i64 0) (.int .i64 (F.1:Int)) (.int .i64 ((s.length-F.2:Nat):Int));change bodyPost _ _ _ _ _ (fill w6 K0 K1 (.string ⟨#[]⟩) (.int .i64 0) (.int .i64 0) (.int .i64 (F.1:Int)) (.int .i64 ((s.length-F.2:Nat):Int))).drew;generalize fill w6 K0 K1 (.string ⟨#[]⟩) (.int .i64 0) (.int .i64 0) (.int .i64 (F.1:Int)) (.int .i64 ((s.length-F.2:Nat):Int))=WF at hO |-;obtain⟨o1,o2,o3,o4⟩:=hO;have j0:WF.drew.cell? ⟨K0,0,none⟩=_:=o3.cell 0;have j1:WF.drew.cell? ⟨K0,1,none⟩=_:=o3.cell 1;have j2:WF.drew.cell? ⟨K0,2,none⟩=_:=o3.cell 2;have j3:WF.drew.cell? ⟨K1,0,none⟩=_:=o4.cell 0;have j4:WF.drew.cell? ⟨K1,1,none⟩=_:=o4.cell 1;refine bodyPost_ret (v:=.tuple #[.agg #[.string ⟨#[]⟩,.int .i64 0,.int .i64 0],.agg #[.int .i64 (F.1:Int),.int .i64 ((s.length-F.2:Nat):Int)]]) (by simp[results,Tryz.results149,go_sem,j0,j1,j2,j3,j4]) rfl ?_;rw[HV.out];exact⟨rfl,o2.drew⟩
    ·have HV:Hid (R=lprp f n ⟨x1,t,at_,true⟩ (s.drop q2)):=by
      have:=HE1.out;rw[bnd_ok]at this;simp only at this;rw[if_pos (by rw[<-HEE.out])]at this;exact this
     clear HE1 HEE;go_wp2_with (go_at_call 168;refine HEW.out.mono ?_;rintro e w' ⟨rfl,n3,rfl⟩);go_roundw
     case rel =>
      have h5:=HS5.out.drew n3;have hn:n=(n-1)+1:=by have:=HN1.out (.inl (by first | rfl | trivial));omega
      refine⟨⟨x1,t,at_,true⟩,q2,T,n-1,hq2,hT,⟨h5.rd,h5.k0,h5.k1,h5.k2,h5.fr⟩,HAT.out,htag,?_,?_,by rw[<-hn];exact HV.out⟩
      ·intro e _;exact absurd e (isName_hd HNA.out)
      ·rintro(e | e)
       ·exact absurd e (isName_hd HNA.out)
       ·have:=HN2.out (by first | rfl | trivial) e;omega
     case measure =>
      rw[HPL.out,(HS5.out.drew n3).rd.plc];omega
  by_cases cB:t=0/\hd (gaps (s.drop q))=33/\hd ((gaps (s.drop q)).drop 1)=33
  ·by_cases ha:a=[]
   ·have hq1:nx s q+2<=s.length:=by
     have h1:=gaps_nx s hq
     have h2:2<=(gaps (s.drop q)).length:=by
      have:=(hd_ne (l:=gaps (s.drop q)) (by rw[cB.2.1];decide)).2;have:=(hd_ne (l:=(gaps (s.drop q)).drop 1) (by rw[cB.2.2];decide)).2;omega
     omega
    have hdr:s.drop (nx s q+2)=(gaps (s.drop q)).drop 2:=by rw[<-List.drop_drop,drop_nx s hq]
    have HE1:Hid (R=bnd (tag (s.drop (nx s q+2))) fun x=>if ends f x.2=true then lprp f n ⟨a,x.1,s.length-nx s q,true⟩ x.2 else .error (3,x.2.length)):=by
     have:=HE.out;unfold lprp at this;rw[if_neg cA,if_pos cB]at this;rw[hdr,<-gaps_nx s hq];exact this
    have HYT:Hid (∀ k,Calls Tryz.prog 147 #[.pointer (some ⟨b,0,none⟩),.string ⟨#[33,33]⟩] (W1.drewN k) fun e w'=>e=.returned (.bool true)/\Hid (Sta w w' b s (nx s q+2) dp K0 K1 K2 wr.heap.size a t T zF)):=fun k =>
     (takes_yes [33,33] (HS1.out.rd.drew k) hq hs (by decide) (by rw[see_two s q (by decide)];simpa using cB.2)).mono (fun e w' h=>⟨h.1,(HS1.out.drew k).step h.2.1 h.2.2⟩)
    have ht:=cB.1
    have HA:Hid (∀ k,Calls Tryz.prog 147 #[.pointer (some ⟨b,0,none⟩),.string ⟨#[38]⟩] (W1.drewN k) fun e w'=>e=.returned (.bool false)/\∃ n,w'=(W1.drewN k).drewN n):=fun k =>
     takes_no [38] (HS1.out.rd.drew k) hq hs (by decide) (by rw[see_hd s q (by decide)];simpa using fun e=>cA ⟨ha,e⟩)
    clear cA cB HE hdr;subst ha;subst ht;go_wp2_with fail;refine(HA.out 0).mono ?_;rintro e w' ⟨rfl,n1,rfl⟩;go_wp2_with fail;refine(HYT.out _).mono ?_;rintro e w1 ⟨rfl,HS2⟩;have hqq:q<nx s q+1:=by have:=nx_ge s hq;omega
    have c1:=HS2.out.rd.c1;have zK2:w1.frozen? ⟨K2,2,none⟩=false:=HS2.out.k2.fz 2;have gK2:w1.cell? ⟨K2,2,none⟩=some (.int .i64 (T:Int)):=HS2.out.k2.cell 2;have HS3:Hid (Sta w (w1.setCell ⟨K2,2,none⟩ (.int .i64 (nx s q:Int))) b s (nx s q+2) dp K0 K1 K2 wr.heap.size [] 0 (nx s q) zF):=HS2.out.setK2 2 _ rfl;have hc1:(((nx s q+2:Nat):Int)-2)=(nx s q:Int):=by omega
    rw[show ((nx s q+2:Nat):Int)=(nx s q:Int)+2 from by omega]at c1;clear HS2;obtain⟨w2,hw2⟩:∃ w2,w1.setCell ⟨K2,2,none⟩ (.int .i64 (nx s q:Int))=w2:=⟨_,rfl⟩;rw[hw2]at HS3;generalize nx s q=q0 at *;have HNM:Hid (Calls Tryz.prog 167 #[.pointer (some ⟨b,0,none⟩)] w2 fun e w'=>TagRes b s dp w2 (tag (s.drop (q0+2))) e w'):=tag_any HS3.out.rd hq1 hs;have HBD:Hid (∀ e,tag (s.drop (q0+2))=.error e->e.1≠0):=tag_bad _;generalize hres:tag (s.drop (q0+2))=res at HNM HE1 HBD
    cases res with
    | error F =>
     clear hres;have HV:Hid (R=.error F):=HE1.out;have hF0:((F.1:Int)==0)=false:=by have:=HBD.out F rfl;rw[beq_eq_false_iff_ne];omega
     have hF1:((F.1:Int)!=0)=true:=by simpa using hF0
     clear HE1 HBD;go_wp2_with fail;refine HNM.out.mono ?_;rintro e w3 ⟨rfl,hfr3⟩;unfold fv;have HB3:Hid (Stb w w3 b K0 K1 K2 wr.heap.size (prC [] 0 q0) zF):=HS3.out.err hfr3;clear hfr3 HS3 HNM HYT;obtain⟨w4,hw4⟩:∃ w4,((w3.setCell ⟨K2,1,none⟩ (.int .i64 0)).setCell ⟨wr.heap.size,0,none⟩ (.int .i64 (F.1:Int))).setCell ⟨wr.heap.size,1,none⟩ (.int .i64 ((s.length-F.2:Nat):Int))=w4:=⟨_,rfl⟩;have HB4:=(HB3.out.setK2 1 (.int .i64 0)).setKF (.int .i64 (F.1:Int)) (.int .i64 ((s.length-F.2:Nat):Int)) rfl;rw[hw4]at HB4;have HB4:Hid _:=HB4;have e0:w3.cell? ⟨K2,1,none⟩=some (.int .i64 0):=HB3.out.k2.cell 1;have e1:w3.frozen? ⟨K2,1,none⟩=false:=HB3.out.k2.fz 1;obtain⟨e2,e3⟩:=HB3.out.kf.c2;have e4:w3.frozen? ⟨wr.heap.size,0,none⟩=false:=HB3.out.kf.fz 0;have e5:w3.frozen? ⟨wr.heap.size,1,none⟩=false:=HB3.out.kf.fz 1;have hne1:wr.heap.size≠K2:=by have:=HB3.out.hf;omega
     have hne2:K2≠wr.heap.size:=by omega
     have hne3:wr.heap.size≠K0:=by have:=HB3.out.ks.h1;have:=HB3.out.ks.h2;have:=HB3.out.hf;omega
     have hne4:K0≠wr.heap.size:=by omega
     have hne5:wr.heap.size≠K1:=by have:=HB3.out.ks.h2;have:=HB3.out.hf;omega
     have hne6:K1≠wr.heap.size:=by omega
     clear HB3;obtain⟨i0,i1⟩:=HB4.out.kf.c2;obtain⟨X0,X1,X2⟩:=(HB4.out).k0.c3;obtain⟨Y0,Y1⟩:=(HB4.out).k1.c2;have Z0:w4.frozen? ⟨K0,0,none⟩=false:=(HB4.out).k0.fz 0;have Z1:w4.frozen? ⟨K0,1,none⟩=false:=(HB4.out).k0.fz 1;have Z2:w4.frozen? ⟨K0,2,none⟩=false:=(HB4.out).k0.fz 2;have V0:w4.frozen? ⟨K1,0,none⟩=false:=(HB4.out).k1.fz 0;have V1:w4.frozen? ⟨K1,1,none⟩=false:=(HB4.out).k1.fz 1;go_wp2;go_region
     all_goals
      go_wp2;have hO:=(HB4.out).out (.string ⟨#[]⟩) (.int .i64 0) (.int .i64 0) (.int .i64 (F.1:Int)) (.int .i64 ((s.length-F.2:Nat):Int));change bodyPost _ _ _ _ _ (fill w4 K0 K1 (.string ⟨#[]⟩) (.int .i64 0) (.int .i64 0) (.int .i64 (F.1:Int)) (.int .i64 ((s.length-F.2:Nat):Int))).drew;generalize fill w4 K0 K1 (.string ⟨#[]⟩) (.int .i64 0) (.int .i64 0) (.int .i64 (F.1:Int)) (.int .i64 ((s.length-F.2:Nat):Int))=WF at hO |-;obtain⟨o1,o2,o3,o4⟩:=hO;have j0:WF.drew.cell? ⟨K0,0,none⟩=_:=o3.cell 0;have j1:WF.drew.cell? ⟨K0,1,none⟩=_:=o3.cell 1;have j2:WF.drew.cell? ⟨K0,2,none⟩=_:=o3.cell 2;have j3:WF.drew.cell? ⟨K1,0,none⟩=_:=o4.cell 0;have j4:WF.drew.cell? ⟨K1,1,none⟩=_:=o4.cell 1;refine bodyPost_ret (v:=.tuple #[.agg #[.string ⟨#[]⟩,.int .i64 0,.int .i64 0],.agg #[.int .i64 (F.1:Int),.int .i64 ((s.length-F.2:Nat):Int)]]) (by simp[results,Tryz.results149,go_sem,j0,j1,j2,j3,j4]) rfl ?_;rw[HV.out];exact⟨rfl,o2.drew⟩
    | ok x =>
     obtain⟨x1,x2⟩:=x;have HOK:=HBD;clear HBD HOK;go_wp2_with fail;refine HNM.out.mono ?_;rintro e w3 ⟨rfl,⟨q2,hq2,hx2,hr3⟩,hfr3⟩;simp only at hx2;subst hx2;have HS4:Hid (Sta w w3 b s q2 dp K0 K1 K2 wr.heap.size [] 0 q0 zF):=HS3.out.step hr3 hfr3;clear hr3 hfr3 HS3 HNM HYT;unfold f0;simp only[];have hxn:=tag_inv hres;simp only[List.length_drop]at hxn;have hx1:1<=x1/\x1<=6:=⟨hxn.1,hxn.2.1⟩;have hq12:q0+2<=q2:=by omega
     clear hxn;clear hres;obtain⟨w4,hw4⟩:∃ w4,((w3.setCell ⟨K2,1,none⟩ (.int .i64 x1)).setCell ⟨wr.heap.size,0,none⟩ (.int .i64 0)).setCell ⟨wr.heap.size,1,none⟩ (.int .i64 0)=w4:=⟨_,rfl⟩;have hS5:Sta w (((w3.setCell ⟨K2,1,none⟩ (.int .i64 x1)).setCell ⟨wr.heap.size,0,none⟩ (.int .i64 0)).setCell ⟨wr.heap.size,1,none⟩ (.int .i64 0)) b s q2 dp K0 K1 K2 wr.heap.size [] x1 q0 #[.int .i64 0,.int .i64 0]:=(HS4.out.setK2 1 (.int .i64 x1) rfl).setKF (.int .i64 0) (.int .i64 0) rfl;rw[hw4]at hS5;have HS5:Hid (Sta w w4 b s q2 dp K0 K1 K2 wr.heap.size [] x1 q0 #[.int .i64 0,.int .i64 0]):=hS5;clear hS5;have e0:w3.cell? ⟨K2,1,none⟩=some (.int .i64 0):=HS4.out.k2.cell 1;have e1:w3.frozen? ⟨K2,1,none⟩=false:=HS4.out.k2.fz 1;obtain⟨e2,e3⟩:=HS4.out.kf.c2;have e4:w3.frozen? ⟨wr.heap.size,0,none⟩=false:=HS4.out.kf.fz 0;have e5:w3.frozen? ⟨wr.heap.size,1,none⟩=false:=HS4.out.kf.fz 1;have hne1:wr.heap.size≠K2:=by have:=HS4.out.hf;omega
     have hne2:K2≠wr.heap.size:=by omega
     clear HS4;obtain⟨i0,i1⟩:=HS5.out.kf.c2;have i2:w4.frozen? ⟨wr.heap.size,0,none⟩=false:=HS5.out.kf.fz 0;have i3:w4.frozen? ⟨wr.heap.size,1,none⟩=false:=HS5.out.kf.fz 1;have i4:=HS5.out.rd.c1;obtain⟨E,HEE⟩:∃ E,Hid (E=ends f (s.drop q2)):=⟨_,rfl⟩;have HEW:Hid (Calls Tryz.prog 168 #[.pointer (some ⟨b,0,none⟩),.bool f] w4 fun e w'=>e=.returned (.bool E)/\∃ n,w'=w4.drewN n):=by rw[HEE.out];exact endsWord_any f HS5.out.rd hq2 hs
     cases E
     ·have HV:Hid (R=.error (stands (s.drop q2))):=by
       have:=HE1.out;rw[bnd_ok]at this;simp only at this;rw[if_neg (by rw[<-HEE.out];decide)]at this;rw[this]
       have hne:s.drop q2≠[]:=by
        intro e;have h2:=HEE.out;rw[e]at h2;exact absurd h2 (by unfold ends;simp)
       show Except.error _=Except.error _;unfold stands;rw[if_neg hne]
      have HWA:Hid (∀ k,Calls Tryz.prog 166 #[.pointer (some ⟨b,0,none⟩),.int .i64 (q2:Int)] (w4.drewN k) fun e w'=>e=.returned (fv s.length (stands (s.drop q2)))/\Below (w4.drewN k).heap.size (w4.drewN k) w'):=fun k=>wrongAt_any q2 (HS5.out.rd.drew k) hq2 hs
      have hF:=stands_ne (s.drop q2);generalize stands (s.drop q2)=F at *;have hF1:((F.1:Int)!=0)=true:=by simpa using hF
      clear HE1 HEE;go_wp2_with (go_at_call 168;refine HEW.out.mono ?_;rintro e w' ⟨rfl,n3,rfl⟩);refine(HWA.out _).mono ?_;rintro e w5 ⟨rfl,hb5⟩;unfold fv;have HB6:=((HS5.out.drew n3).later hb5).err Fr.refl;obtain⟨k0,k1⟩:=HB6.kf.c2;have k2:w5.frozen? ⟨wr.heap.size,0,none⟩=false:=HB6.kf.fz 0;have k3:w5.frozen? ⟨wr.heap.size,1,none⟩=false:=HB6.kf.fz 1;have HB7:=HB6.setKF (.int .i64 (F.1:Int)) (.int .i64 ((s.length-F.2:Nat):Int)) rfl;obtain⟨w6,hw6⟩:∃ w6,(w5.setCell ⟨wr.heap.size,0,none⟩ (.int .i64 (F.1:Int))).setCell ⟨wr.heap.size,1,none⟩ (.int .i64 ((s.length-F.2:Nat):Int))=w6:=⟨_,rfl⟩;rw[hw6]at HB7;have HB7:Hid _:=HB7;clear HB6 HS5;obtain⟨l0,l1⟩:=HB7.out.kf.c2;obtain⟨X0,X1,X2⟩:=(HB7.out).k0.c3;obtain⟨Y0,Y1⟩:=(HB7.out).k1.c2;have Z0:w6.frozen? ⟨K0,0,none⟩=false:=(HB7.out).k0.fz 0;have Z1:w6.frozen? ⟨K0,1,none⟩=false:=(HB7.out).k0.fz 1;have Z2:w6.frozen? ⟨K0,2,none⟩=false:=(HB7.out).k0.fz 2;have V0:w6.frozen? ⟨K1,0,none⟩=false:=(HB7.out).k1.fz 0;have V1:w6.frozen? ⟨K1,1,none⟩=false:=(HB7.out).k1.fz 1;have hne3:wr.heap.size≠K0:=by have:=HB7.out.ks.h1;have:=HB7.out.ks.h2;have:=HB7.out.hf;omega
      have hne4:K0≠wr.heap.size:=by omega
      have hne5:wr.heap.size≠K1:=by have:=HB7.out.ks.h2;have:=HB7.out.hf;omega
      have hne6:K1≠wr.heap.size:=by omega
      go_wp2;go_region
      all_goals
       go_wp2;have hO:=(HB7.out).out (.string ⟨#[]⟩) (.int .i64 0) (.int .i64 0) (.int .i64 (F.1:Int)) (.int .i64 ((s.length-F.2:Nat):Int));change bodyPost _ _ _ _ _ (fill w6 K0 K1 (.string ⟨#[]⟩) (.int .i64 0) (.int .i64 0) (.int .i64 (F.1:Int)) (.int .i64 ((s.length-F.2:Nat):Int))).drew;generalize fill w6 K0 K1 (.string ⟨#[]⟩) (.int .i64 0) (.int .i64 0) (.int .i64 (F.1:Int)) (.int .i64 ((s.length-F.2:Nat):Int))=WF at hO |-;obtain⟨o1,o2,o3,o4⟩:=hO;have j0:WF.drew.cell? ⟨K0,0,none⟩=_:=o3.cell 0;have j1:WF.drew.cell? ⟨K0,1,none⟩=_:=o3.cell 1;have j2:WF.drew.cell? ⟨K0,2,none⟩=_:=o3.cell 2;have j3:WF.drew.cell? ⟨K1,0,none⟩=_:=o4.cell 0;have j4:WF.drew.cell? ⟨K1,1,none⟩=_:=o4.cell 1;refine bodyPost_ret (v:=.tuple #[.agg #[.string ⟨#[]⟩,.int .i64 0,.int .i64 0],.agg #[.int .i64 (F.1:Int),.int .i64 ((s.length-F.2:Nat):Int)]]) (by simp[results,Tryz.results149,go_sem,j0,j1,j2,j3,j4]) rfl ?_;rw[HV.out];exact⟨rfl,o2.drew⟩
     ·have HV:Hid (R=lprp f n ⟨[],x1,(s.length-q0),true⟩ (s.drop q2)):=by
       have:=HE1.out;rw[bnd_ok]at this;simp only at this;rw[if_pos (by rw[<-HEE.out])]at this;exact this
      clear HE1 HEE;go_wp2_with (go_at_call 168;refine HEW.out.mono ?_;rintro e w' ⟨rfl,n3,rfl⟩);go_roundw
      case rel =>
       have h5:=HS5.out.drew n3;have hn:n=(n-1)+1:=by have:=HN1.out (.inr (by first | rfl | trivial));omega
       refine⟨⟨[],x1,(s.length-q0),true⟩,q2,q0,n-1,hq2,by omega,⟨h5.rd,h5.k0,h5.k1,h5.k2,h5.fr⟩,fun _=>by show q0=s.length-(s.length-q0);omega,⟨by show (0:Int)<=x1;omega,hx1.2⟩,?_,?_,by rw[<-hn];exact HV.out⟩
       ·intro _ e;exact absurd (show x1=0 from e) (by omega)
       ·rintro(e | e)
        ·have:=HN2.out (by first | rfl | trivial) (by first | rfl | trivial);omega
        ·exact absurd (show x1=0 from e) (by omega)
      case measure =>
       rw[HPL.out,(HS5.out.drew n3).rd.plc];omega
   ·have hq1:nx s q+2<=s.length:=by
     have h1:=gaps_nx s hq
     have h2:2<=(gaps (s.drop q)).length:=by
      have:=(hd_ne (l:=gaps (s.drop q)) (by rw[cB.2.1];decide)).2;have:=(hd_ne (l:=(gaps (s.drop q)).drop 1) (by rw[cB.2.2];decide)).2;omega
     omega
    have hdr:s.drop (nx s q+2)=(gaps (s.drop q)).drop 2:=by rw[<-List.drop_drop,drop_nx s hq]
    have HE1:Hid (R=bnd (tag (s.drop (nx s q+2))) fun x=>if ends f x.2=true then lprp f n ⟨a,x.1,s.length-nx s q,true⟩ x.2 else .error (3,x.2.length)):=by
     have:=HE.out;unfold lprp at this;rw[if_neg cA,if_pos cB]at this;rw[hdr,<-gaps_nx s hq];exact this
    have HYT:Hid (∀ k,Calls Tryz.prog 147 #[.pointer (some ⟨b,0,none⟩),.string ⟨#[33,33]⟩] (W1.drewN k) fun e w'=>e=.returned (.bool true)/\Hid (Sta w w' b s (nx s q+2) dp K0 K1 K2 wr.heap.size a t T zF)):=fun k =>
     (takes_yes [33,33] (HS1.out.rd.drew k) hq hs (by decide) (by rw[see_two s q (by decide)];simpa using cB.2)).mono (fun e w' h=>⟨h.1,(HS1.out.drew k).step h.2.1 h.2.2⟩)
    have ht:=cB.1;have hae:(a==[])=false:=by simpa using ha
    rw[hae]at hat1;clear cA cB HE hdr;subst ht;go_wp2_with fail;refine(HYT.out 0).mono ?_;rintro e w1 ⟨rfl,HS2⟩;have hqq:q<nx s q+1:=by have:=nx_ge s hq;omega
    have c1:=HS2.out.rd.c1;have zK2:w1.frozen? ⟨K2,2,none⟩=false:=HS2.out.k2.fz 2;have gK2:w1.cell? ⟨K2,2,none⟩=some (.int .i64 (T:Int)):=HS2.out.k2.cell 2;have HS3:Hid (Sta w (w1.setCell ⟨K2,2,none⟩ (.int .i64 (nx s q:Int))) b s (nx s q+2) dp K0 K1 K2 wr.heap.size a 0 (nx s q) zF):=HS2.out.setK2 2 _ rfl;have hc1:(((nx s q+2:Nat):Int)-2)=(nx s q:Int):=by omega
    rw[show ((nx s q+2:Nat):Int)=(nx s q:Int)+2 from by omega]at c1;clear HS2;obtain⟨w2,hw2⟩:∃ w2,w1.setCell ⟨K2,2,none⟩ (.int .i64 (nx s q:Int))=w2:=⟨_,rfl⟩;rw[hw2]at HS3;generalize nx s q=q0 at *;have HNM:Hid (Calls Tryz.prog 167 #[.pointer (some ⟨b,0,none⟩)] w2 fun e w'=>TagRes b s dp w2 (tag (s.drop (q0+2))) e w'):=tag_any HS3.out.rd hq1 hs;have HBD:Hid (∀ e,tag (s.drop (q0+2))=.error e->e.1≠0):=tag_bad _;generalize hres:tag (s.drop (q0+2))=res at HNM HE1 HBD
    cases res with
    | error F =>
     clear hres;have HV:Hid (R=.error F):=HE1.out;have hF0:((F.1:Int)==0)=false:=by have:=HBD.out F rfl;rw[beq_eq_false_iff_ne];omega
     have hF1:((F.1:Int)!=0)=true:=by simpa using hF0
     clear HE1 HBD;go_wp2_with fail;refine HNM.out.mono ?_;rintro e w3 ⟨rfl,hfr3⟩;unfold fv;have HB3:Hid (Stb w w3 b K0 K1 K2 wr.heap.size (prC a 0 q0) zF):=HS3.out.err hfr3;clear hfr3 HS3 HNM HYT;obtain⟨w4,hw4⟩:∃ w4,((w3.setCell ⟨K2,1,none⟩ (.int .i64 0)).setCell ⟨wr.heap.size,0,none⟩ (.int .i64 (F.1:Int))).setCell ⟨wr.heap.size,1,none⟩ (.int .i64 ((s.length-F.2:Nat):Int))=w4:=⟨_,rfl⟩;have HB4:=(HB3.out.setK2 1 (.int .i64 0)).setKF (.int .i64 (F.1:Int)) (.int .i64 ((s.length-F.2:Nat):Int)) rfl;rw[hw4]at HB4;have HB4:Hid _:=HB4;have e0:w3.cell? ⟨K2,1,none⟩=some (.int .i64 0):=HB3.out.k2.cell 1;have e1:w3.frozen? ⟨K2,1,none⟩=false:=HB3.out.k2.fz 1;obtain⟨e2,e3⟩:=HB3.out.kf.c2;have e4:w3.frozen? ⟨wr.heap.size,0,none⟩=false:=HB3.out.kf.fz 0;have e5:w3.frozen? ⟨wr.heap.size,1,none⟩=false:=HB3.out.kf.fz 1;have hne1:wr.heap.size≠K2:=by have:=HB3.out.hf;omega
     have hne2:K2≠wr.heap.size:=by omega
     have hne3:wr.heap.size≠K0:=by have:=HB3.out.ks.h1;have:=HB3.out.ks.h2;have:=HB3.out.hf;omega
     have hne4:K0≠wr.heap.size:=by omega
     have hne5:wr.heap.size≠K1:=by have:=HB3.out.ks.h2;have:=HB3.out.hf;omega
     have hne6:K1≠wr.heap.size:=by omega
     clear HB3;obtain⟨i0,i1⟩:=HB4.out.kf.c2;obtain⟨X0,X1,X2⟩:=(HB4.out).k0.c3;obtain⟨Y0,Y1⟩:=(HB4.out).k1.c2;have Z0:w4.frozen? ⟨K0,0,none⟩=false:=(HB4.out).k0.fz 0;have Z1:w4.frozen? ⟨K0,1,none⟩=false:=(HB4.out).k0.fz 1;have Z2:w4.frozen? ⟨K0,2,none⟩=false:=(HB4.out).k0.fz 2;have V0:w4.frozen? ⟨K1,0,none⟩=false:=(HB4.out).k1.fz 0;have V1:w4.frozen? ⟨K1,1,none⟩=false:=(HB4.out).k1.fz 1;go_wp2;go_region
     all_goals
      go_wp2;have hO:=(HB4.out).out (.string ⟨#[]⟩) (.int .i64 0) (.int .i64 0) (.int .i64 (F.1:Int)) (.int .i64 ((s.length-F.2:Nat):Int));change bodyPost _ _ _ _ _ (fill w4 K0 K1 (.string ⟨#[]⟩) (.int .i64 0) (.int .i64 0) (.int .i64 (F.1:Int)) (.int .i64 ((s.length-F.2:Nat):Int))).drew;generalize fill w4 K0 K1 (.string ⟨#[]⟩) (.int .i64 0) (.int .i64 0) (.int .i64 (F.1:Int)) (.int .i64 ((s.length-F.2:Nat):Int))=WF at hO |-;obtain⟨o1,o2,o3,o4⟩:=hO;have j0:WF.drew.cell? ⟨K0,0,none⟩=_:=o3.cell 0;have j1:WF.drew.cell? ⟨K0,1,none⟩=_:=o3.cell 1;have j2:WF.drew.cell? ⟨K0,2,none⟩=_:=o3.cell 2;have j3:WF.drew.cell? ⟨K1,0,none⟩=_:=o4.cell 0;have j4:WF.drew.cell? ⟨K1,1,none⟩=_:=o4.cell 1;refine bodyPost_ret (v:=.tuple #[.agg #[.string ⟨#[]⟩,.int .i64 0,.int .i64 0],.agg #[.int .i64 (F.1:Int),.int .i64 ((s.length-F.2:Nat):Int)]]) (by simp[results,Tryz.results149,go_sem,j0,j1,j2,j3,j4]) rfl ?_;rw[HV.out];exact⟨rfl,o2.drew⟩
    | ok x =>
     obtain⟨x1,x2⟩:=x;have HOK:=HBD;clear HBD HOK;go_wp2_with fail;refine HNM.out.mono ?_;rintro e w3 ⟨rfl,⟨q2,hq2,hx2,hr3⟩,hfr3⟩;simp only at hx2;subst hx2;have HS4:Hid (Sta w w3 b s q2 dp K0 K1 K2 wr.heap.size a 0 q0 zF):=HS3.out.step hr3 hfr3;clear hr3 hfr3 HS3 HNM HYT;unfold f0;simp only[];have hxn:=tag_inv hres;simp only[List.length_drop]at hxn;have hx1:1<=x1/\x1<=6:=⟨hxn.1,hxn.2.1⟩;have hq12:q0+2<=q2:=by omega
     clear hxn;clear hres;obtain⟨w4,hw4⟩:∃ w4,((w3.setCell ⟨K2,1,none⟩ (.int .i64 x1)).setCell ⟨wr.heap.size,0,none⟩ (.int .i64 0)).setCell ⟨wr.heap.size,1,none⟩ (.int .i64 0)=w4:=⟨_,rfl⟩;have hS5:Sta w (((w3.setCell ⟨K2,1,none⟩ (.int .i64 x1)).setCell ⟨wr.heap.size,0,none⟩ (.int .i64 0)).setCell ⟨wr.heap.size,1,none⟩ (.int .i64 0)) b s q2 dp K0 K1 K2 wr.heap.size a x1 q0 #[.int .i64 0,.int .i64 0]:=(HS4.out.setK2 1 (.int .i64 x1) rfl).setKF (.int .i64 0) (.int .i64 0) rfl;rw[hw4]at hS5;have HS5:Hid (Sta w w4 b s q2 dp K0 K1 K2 wr.heap.size a x1 q0 #[.int .i64 0,.int .i64 0]):=hS5;clear hS5;have e0:w3.cell? ⟨K2,1,none⟩=some (.int .i64 0):=HS4.out.k2.cell 1;have e1:w3.frozen? ⟨K2,1,none⟩=false:=HS4.out.k2.fz 1;obtain⟨e2,e3⟩:=HS4.out.kf.c2;have e4:w3.frozen? ⟨wr.heap.size,0,none⟩=false:=HS4.out.kf.fz 0;have e5:w3.frozen? ⟨wr.heap.size,1,none⟩=false:=HS4.out.kf.fz 1;have hne1:wr.heap.size≠K2:=by have:=HS4.out.hf;omega
     have hne2:K2≠wr.heap.size:=by omega
     clear HS4;obtain⟨i0,i1⟩:=HS5.out.kf.c2;have i2:w4.frozen? ⟨wr.heap.size,0,none⟩=false:=HS5.out.kf.fz 0;have i3:w4.frozen? ⟨wr.heap.size,1,none⟩=false:=HS5.out.kf.fz 1;have i4:=HS5.out.rd.c1;obtain⟨E,HEE⟩:∃ E,Hid (E=ends f (s.drop q2)):=⟨_,rfl⟩;have HEW:Hid (Calls Tryz.prog 168 #[.pointer (some ⟨b,0,none⟩),.bool f] w4 fun e w'=>e=.returned (.bool E)/\∃ n,w'=w4.drewN n):=by rw[HEE.out];exact endsWord_any f HS5.out.rd hq2 hs
     cases E
     ·have HV:Hid (R=.error (stands (s.drop q2))):=by
       have:=HE1.out;rw[bnd_ok]at this;simp only at this;rw[if_neg (by rw[<-HEE.out];decide)]at this;rw[this]
       have hne:s.drop q2≠[]:=by
        intro e;have h2:=HEE.out;rw[e]at h2;exact absurd h2 (by unfold ends;simp)
       show Except.error _=Except.error _;unfold stands;rw[if_neg hne]
      have HWA:Hid (∀ k,Calls Tryz.prog 166 #[.pointer (some ⟨b,0,none⟩),.int .i64 (q2:Int)] (w4.drewN k) fun e w'=>e=.returned (fv s.length (stands (s.drop q2)))/\Below (w4.drewN k).heap.size (w4.drewN k) w'):=fun k=>wrongAt_any q2 (HS5.out.rd.drew k) hq2 hs
      have hF:=stands_ne (s.drop q2);generalize stands (s.drop q2)=F at *;have hF1:((F.1:Int)!=0)=true:=by simpa using hF
      clear HE1 HEE;go_wp2_with (go_at_call 168;refine HEW.out.mono ?_;rintro e w' ⟨rfl,n3,rfl⟩);refine(HWA.out _).mono ?_;rintro e w5 ⟨rfl,hb5⟩;unfold fv;have HB6:=((HS5.out.drew n3).later hb5).err Fr.refl;obtain⟨k0,k1⟩:=HB6.kf.c2;have k2:w5.frozen? ⟨wr.heap.size,0,none⟩=false:=HB6.kf.fz 0;have k3:w5.frozen? ⟨wr.heap.size,1,none⟩=false:=HB6.kf.fz 1;have HB7:=HB6.setKF (.int .i64 (F.1:Int)) (.int .i64 ((s.length-F.2:Nat):Int)) rfl;obtain⟨w6,hw6⟩:∃ w6,(w5.setCell ⟨wr.heap.size,0,none⟩ (.int .i64 (F.1:Int))).setCell ⟨wr.heap.size,1,none⟩ (.int .i64 ((s.length-F.2:Nat):Int))=w6:=⟨_,rfl⟩;rw[hw6]at HB7;have HB7:Hid _:=HB7;clear HB6 HS5;obtain⟨l0,l1⟩:=HB7.out.kf.c2;obtain⟨X0,X1,X2⟩:=(HB7.out).k0.c3;obtain⟨Y0,Y1⟩:=(HB7.out).k1.c2;have Z0:w6.frozen? ⟨K0,0,none⟩=false:=(HB7.out).k0.fz 0;have Z1:w6.frozen? ⟨K0,1,none⟩=false:=(HB7.out).k0.fz 1;have Z2:w6.frozen? ⟨K0,2,none⟩=false:=(HB7.out).k0.fz 2;have V0:w6.frozen? ⟨K1,0,none⟩=false:=(HB7.out).k1.fz 0;have V1:w6.frozen? ⟨K1,1,none⟩=false:=(HB7.out).k1.fz 1;have hne3:wr.heap.size≠K0:=by have:=HB7.out.ks.h1;have:=HB7.out.ks.h2;have:=HB7.out.hf;omega
      have hne4:K0≠wr.heap.size:=by omega
      have hne5:wr.heap.size≠K1:=by have:=HB7.out.ks.h2;have:=HB7.out.hf;omega
      have hne6:K1≠wr.heap.size:=by omega
      go_wp2;go_region
      all_goals
       go_wp2;have hO:=(HB7.out).out (.string ⟨#[]⟩) (.int .i64 0) (.int .i64 0) (.int .i64 (F.1:Int)) (.int .i64 ((s.length-F.2:Nat):Int));change bodyPost _ _ _ _ _ (fill w6 K0 K1 (.string ⟨#[]⟩) (.int .i64 0) (.int .i64 0) (.int .i64 (F.1:Int)) (.int .i64 ((s.length-F.2:Nat):Int))).drew;generalize fill w6 K0 K1 (.string ⟨#[]⟩) (.int .i64 0) (.int .i64 0) (.int .i64 (F.1:Int)) (.int .i64 ((s.length-F.2:Nat):Int))=WF at hO |-;obtain⟨o1,o2,o3,o4⟩:=hO;have j0:WF.drew.cell? ⟨K0,0,none⟩=_:=o3.cell 0;have j1:WF.drew.cell? ⟨K0,1,none⟩=_:=o3.cell 1;have j2:WF.drew.cell? ⟨K0,2,none⟩=_:=o3.cell 2;have j3:WF.drew.cell? ⟨K1,0,none⟩=_:=o4.cell 0;have j4:WF.drew.cell? ⟨K1,1,none⟩=_:=o4.cell 1;refine bodyPost_ret (v:=.tuple #[.agg #[.string ⟨#[]⟩,.int .i64 0,.int .i64 0],.agg #[.int .i64 (F.1:Int),.int .i64 ((s.length-F.2:Nat):Int)]]) (by simp[results,Tryz.results149,go_sem,j0,j1,j2,j3,j4]) rfl ?_;rw[HV.out];exact⟨rfl,o2.drew⟩
     ·have HV:Hid (R=lprp f n ⟨a,x1,(s.length-q0),true⟩ (s.drop q2)):=by
       have:=HE1.out;rw[bnd_ok]at this;simp only at this;rw[if_pos (by rw[<-HEE.out])]at this;exact this
      clear HE1 HEE;go_wp2_with (go_at_call 168;refine HEW.out.mono ?_;rintro e w' ⟨rfl,n3,rfl⟩);go_roundw
      case rel =>
       have h5:=HS5.out.drew n3;have hn:n=(n-1)+1:=by have:=HN1.out (.inr (by first | rfl | trivial));omega
       refine⟨⟨a,x1,(s.length-q0),true⟩,q2,q0,n-1,hq2,by omega,⟨h5.rd,h5.k0,h5.k1,h5.k2,h5.fr⟩,fun _=>by show q0=s.length-(s.length-q0);omega,⟨by show (0:Int)<=x1;omega,hx1.2⟩,?_,?_,by rw[<-hn];exact HV.out⟩
       ·intro _ e;exact absurd (show x1=0 from e) (by omega)
       ·rintro(e | e)
        ·exact absurd e (by simpa using hae)
        ·exact absurd (show x1=0 from e) (by omega)
      case measure =>
       rw[HPL.out,(HS5.out.drew n3).rd.plc];omega
  ·have HV:Hid (R=.ok (⟨a,t,at_,sm⟩,s.drop q)):=by
    have:=HE.out;unfold lprp at this;rw[if_neg cA,if_neg cB]at this;exact this
   clear HE
   have HTK:Hid (∀ (x:ByteArray) k,(x=⟨#[38]⟩/\a=[])\/(x=⟨#[33,33]⟩/\t=0)->Calls Tryz.prog 147 #[.pointer (some ⟨b,0,none⟩),.string x] (W1.drewN k) fun e w'=>e=.returned (.bool false)/\∃ n,w'=(W1.drewN k).drewN n):=fun x k hx=>by
    rcases hx with ⟨rfl,ha⟩ | ⟨rfl,ht⟩
    ·exact takes_no [38] (HS1.out.rd.drew k) hq hs (by decide) (by rw[see_hd s q (by decide)];simpa using fun e=>cA ⟨ha,e⟩)
    ·exact takes_no [33,33] (HS1.out.rd.drew k) hq hs (by decide) (by rw[see_two s q (by decide)];simpa using fun e1 e2=>cB ⟨ht,e1,e2⟩)
   have HX:Hid (∀ k,Sta w (W1.drewN k) b s q dp K0 K1 K2 wr.heap.size a t T zF):=fun k=>HS1.out.drew k
   clear HS1 cA cB;have X0:W1.cell? ⟨K0,0,none⟩=some (.string ⟨#[]⟩):=(HX.out 0).k0.cell 0;have X1:W1.cell? ⟨K0,1,none⟩=some (.int .i64 0):=(HX.out 0).k0.cell 1;have X2:W1.cell? ⟨K0,2,none⟩=some (.int .i64 0):=(HX.out 0).k0.cell 2;have Y0:W1.cell? ⟨K1,0,none⟩=some (.int .i64 0):=(HX.out 0).k1.cell 0;have Y1:W1.cell? ⟨K1,1,none⟩=some (.int .i64 0):=(HX.out 0).k1.cell 1;have Z0:W1.frozen? ⟨K0,0,none⟩=false:=(HX.out 0).k0.fz 0;have Z1:W1.frozen? ⟨K0,1,none⟩=false:=(HX.out 0).k0.fz 1;have Z2:W1.frozen? ⟨K0,2,none⟩=false:=(HX.out 0).k0.fz 2;have V0:W1.frozen? ⟨K1,0,none⟩=false:=(HX.out 0).k1.fz 0;have V1:W1.frozen? ⟨K1,1,none⟩=false:=(HX.out 0).k1.fz 1;have g2:W1.cell? ⟨K2,2,none⟩=some (.int .i64 (T:Int)):=(HX.out 0).k2.cell 2
   have HFI:Hid (∀ w',Rd w' b s q dp->Fr b w w'->PrpRes b s dp w R (.returned (.tuple #[.agg #[.string (mk a),.int .i64 t,.int .i64 (T:Int)],.agg #[.int .i64 0,.int .i64 0]])) w'):=fun w' h1 h2=>by
    rw[HV.out];exact⟨⟨T,hT,HAT.out,rfl⟩,⟨q,hq,rfl,h1⟩,h2⟩
   clear HV HAT HN1 HN2 HPL;have HTA:Hid (a=[]->∀ k,Calls Tryz.prog 147 #[.pointer (some ⟨b,0,none⟩),.string ⟨#[38]⟩] (W1.drewN k) fun e w'=>e=.returned (.bool false)/\∃ n,w'=(W1.drewN k).drewN n):=fun ha k=>HTK.out _ k (.inl ⟨rfl,ha⟩)
   have HTB:Hid (t=0->∀ k,Calls Tryz.prog 147 #[.pointer (some ⟨b,0,none⟩),.string ⟨#[33,33]⟩] (W1.drewN k) fun e w'=>e=.returned (.bool false)/\∃ n,w'=(W1.drewN k).drewN n):=fun ht k=>HTK.out _ k (.inr ⟨rfl,ht⟩)
   clear HTK;by_cases ha:a=[]
   ·by_cases ht:t=0
    ·have HA:Hid (∀ k,Calls Tryz.prog 147 #[.pointer (some ⟨b,0,none⟩),.string ⟨#[38]⟩] (W1.drewN k) fun e w'=>e=.returned (.bool false)/\∃ n,w'=(W1.drewN k).drewN n):=HTA.out ha;have HB:Hid (∀ k,Calls Tryz.prog 147 #[.pointer (some ⟨b,0,none⟩),.string ⟨#[33,33]⟩] (W1.drewN k) fun e w'=>e=.returned (.bool false)/\∃ n,w'=(W1.drewN k).drewN n):=HTB.out ht;clear HTA HTB;subst ha;subst ht;go_wp2_with fail;refine(HA.out 0).mono ?_;rintro e w' ⟨rfl,n1,rfl⟩;go_wp2_with fail;refine(HB.out _).mono ?_;rintro e w' ⟨rfl,n2,rfl⟩;go_wp2;have hO:=(HX.out (n1+n2)).out (.string (mk [])) (.int .i64 0) (.int .i64 (T:Int)) (.int .i64 0) (.int .i64 0);change bodyPost _ _ _ _ _ (fill (W1.drewN (n1+n2)) K0 K1 (.string (mk [])) (.int .i64 0) (.int .i64 (T:Int)) (.int .i64 0) (.int .i64 0));generalize fill (W1.drewN (n1+n2)) K0 K1 (.string (mk [])) (.int .i64 0) (.int .i64 (T:Int)) (.int .i64 0) (.int .i64 0)=WF at hO |-;obtain⟨o1,o2,o3,o4⟩:=hO;have j0:=o3.cell 0;have j1:=o3.cell 1;have j2:=o3.cell 2;have j3:=o4.cell 0;have j4:=o4.cell 1;refine bodyPost_ret (v:=.tuple #[.agg #[.string (mk []),.int .i64 0,.int .i64 (T:Int)],.agg #[.int .i64 0,.int .i64 0]]) (by simp[results,Tryz.results149,go_sem,j0,j1,j2,j3,j4]) rfl ?_;exact HFI.out _ o1 o2
    ·have HA:Hid (∀ k,Calls Tryz.prog 147 #[.pointer (some ⟨b,0,none⟩),.string ⟨#[38]⟩] (W1.drewN k) fun e w'=>e=.returned (.bool false)/\∃ n,w'=(W1.drewN k).drewN n):=HTA.out ha;clear HTA HTB;subst ha;have hte:(t==0)=false:=by simpa using ht
     go_wp2_with fail;refine(HA.out 0).mono ?_;rintro e w' ⟨rfl,n1,rfl⟩;go_wp2;have hO:=(HX.out n1).out (.string (mk [])) (.int .i64 t) (.int .i64 (T:Int)) (.int .i64 0) (.int .i64 0);change bodyPost _ _ _ _ _ (fill (W1.drewN n1) K0 K1 (.string (mk [])) (.int .i64 t) (.int .i64 (T:Int)) (.int .i64 0) (.int .i64 0));generalize fill (W1.drewN n1) K0 K1 (.string (mk [])) (.int .i64 t) (.int .i64 (T:Int)) (.int .i64 0) (.int .i64 0)=WF at hO |-;obtain⟨o1,o2,o3,o4⟩:=hO;have j0:=o3.cell 0;have j1:=o3.cell 1;have j2:=o3.cell 2;have j3:=o4.cell 0;have j4:=o4.cell 1;refine bodyPost_ret (v:=.tuple #[.agg #[.string (mk []),.int .i64 t,.int .i64 (T:Int)],.agg #[.int .i64 0,.int .i64 0]]) (by simp[results,Tryz.results149,go_sem,j0,j1,j2,j3,j4]) rfl ?_;exact HFI.out _ o1 o2
   ·by_cases ht:t=0
    ·have HB:Hid (∀ k,Calls Tryz.prog 147 #[.pointer (some ⟨b,0,none⟩),.string ⟨#[33,33]⟩] (W1.drewN k) fun e w'=>e=.returned (.bool false)/\∃ n,w'=(W1.drewN k).drewN n):=HTB.out ht;clear HTA HTB;have hae:(a==[])=false:=by simpa using ha
     rw[hae]at hat1;subst ht;go_wp2_with fail;refine(HB.out 0).mono ?_;rintro e w' ⟨rfl,n2,rfl⟩;go_wp2;have hO:=(HX.out n2).out (.string (mk a)) (.int .i64 0) (.int .i64 (T:Int)) (.int .i64 0) (.int .i64 0);change bodyPost _ _ _ _ _ (fill (W1.drewN n2) K0 K1 (.string (mk a)) (.int .i64 0) (.int .i64 (T:Int)) (.int .i64 0) (.int .i64 0));generalize fill (W1.drewN n2) K0 K1 (.string (mk a)) (.int .i64 0) (.int .i64 (T:Int)) (.int .i64 0) (.int .i64 0)=WF at hO |-;obtain⟨o1,o2,o3,o4⟩:=hO;have j0:=o3.cell 0;have j1:=o3.cell 1;have j2:=o3.cell 2;have j3:=o4.cell 0;have j4:=o4.cell 1;refine bodyPost_ret (v:=.tuple #[.agg #[.string (mk a),.int .i64 0,.int .i64 (T:Int)],.agg #[.int .i64 0,.int .i64 0]]) (by simp[results,Tryz.results149,go_sem,j0,j1,j2,j3,j4]) rfl ?_;exact HFI.out _ o1 o2
    ·clear HTA HTB;have hae:(a==[])=false:=by simpa using ha
     rw[hae]at hat1;have hte:(t==0)=false:=by simpa using ht
     go_upto_region 3 with fail
     clear hW1;have HX1:Hid (Sta w W1 b s q dp K0 K1 K2 wr.heap.size a t T zF):=HX.out 0;clear HX;generalize wr.heap.size=KF at *;go_wp2;have hO:=(HX1.out).out (.string (mk a)) (.int .i64 t) (.int .i64 (T:Int)) (.int .i64 0) (.int .i64 0);change bodyPost _ _ _ _ _ (fill W1 K0 K1 (.string (mk a)) (.int .i64 t) (.int .i64 (T:Int)) (.int .i64 0) (.int .i64 0));generalize fill W1 K0 K1 (.string (mk a)) (.int .i64 t) (.int .i64 (T:Int)) (.int .i64 0) (.int .i64 0)=WF at hO |-;obtain⟨o1,o2,o3,o4⟩:=hO;have j0:=o3.cell 0;have j1:=o3.cell 1;have j2:=o3.cell 2;have j3:=o4.cell 0;have j4:=o4.cell 1;refine bodyPost_ret (v:=.tuple #[.agg #[.string (mk a),.int .i64 t,.int .i64 (T:Int)],.agg #[.int .i64 0,.int .i64 0]]) (by simp[results,Tryz.results149,go_sem,j0,j1,j2,j3,j4]) rfl ?_;exact HFI.out _ o1 o2
end Flw
end Go.Proofs.YtalijhclfppohaaGreatDoor
