/- . -/
import Derived.Test.YtidhpmcmbooaoaaGreatDoorR10FlowName
import Derived.Deep.Cut
import Derived.BigRegion
import Derived.Shelf.Small.Utf8
import Derived.Shelf.Strconv.Itoa3
import Derived.Shelf.Strconv.AtoiAll
import Derived.Shelf.Strings.AsciiSet
import Derived.Test.YtidhpmcmbooaoaaGreatDoorProg
import Derived.Test.YtidhpmcmbooaoaaGreatDoorR09PlainLeaf
import Derived.Lib.AsciiSet
import Derived.Deep.WholeRow
import Derived.Laws.RangeAny
import Derived.WalkMore
import Derived.BigQuiet
import Derived.Deep.QuietTactic
set_option linter.unusedSimpArgs false
set_option linter.unusedVariables false
set_option maxRecDepth 100000
namespace Go.Proofs.YtidhpmcmbooaoaaGreatDoor
namespace Flw
open Utf Rws Pln
open Go.RowKit
set_option maxHeartbeats 4000000
variable {b p dp:Nat} {s:Ln} {w w1 w2:World}
def Bx (w:World) (k:Nat) (cs:Array Value) (t:TypeId):Prop:=w.heap[k]?=some (.cells cs t (0,0))
theorem Bx.cell {k:Nat} {cs:Array Value} {t:TypeId} (h:Bx w k cs t) (i:Nat):w.cell? ⟨k,i,none⟩=cs[i]?:=Lib.cell_of_heap h i
theorem Bx.c2 {k:Nat} {a0 a1:Value} {t:TypeId} (h:Bx w k #[a0,a1] t):w.cell? ⟨k,0,none⟩=some a0/\w.cell? ⟨k,1,none⟩=some a1:=⟨h.cell 0,h.cell 1⟩
theorem Bx.c3 {k:Nat} {a0 a1 a2:Value} {t:TypeId} (h:Bx w k #[a0,a1,a2] t):w.cell? ⟨k,0,none⟩=some a0/\w.cell? ⟨k,1,none⟩=some a1/\w.cell? ⟨k,2,none⟩=some a2:=⟨h.cell 0,h.cell 1,h.cell 2⟩
theorem Bx.c4 {k:Nat} {a0 a1 a2 a3:Value} {t:TypeId} (h:Bx w k #[a0,a1,a2,a3] t):w.cell? ⟨k,0,none⟩=some a0/\w.cell? ⟨k,1,none⟩=some a1/\w.cell? ⟨k,2,none⟩=some a2/\w.cell? ⟨k,3,none⟩=some a3:=⟨h.cell 0,h.cell 1,h.cell 2,h.cell 3⟩
theorem Bx.c5 {k:Nat} {a0 a1 a2 a3 a4:Value} {t:TypeId} (h:Bx w k #[a0,a1,a2,a3,a4] t):w.cell? ⟨k,0,none⟩=some a0/\w.cell? ⟨k,1,none⟩=some a1/\w.cell? ⟨k,2,none⟩=some a2/\w.cell? ⟨k,3,none⟩=some a3/\w.cell? ⟨k,4,none⟩=some a4:=⟨h.cell 0,h.cell 1,h.cell 2,h.cell 3,h.cell 4⟩
theorem Bx.fz {k:Nat} {cs:Array Value} {t:TypeId} (h:Bx w k cs t) (i:Nat):w.frozen? ⟨k,i,none⟩=false:=Lib.frozen_of_heap h i
theorem Bx.lt {k:Nat} {cs:Array Value} {t:TypeId} (h:Bx w k cs t):k<w.heap.size:=(Array.getElem?_eq_some_iff.1 h).1
theorem Bx.fr {k:Nat} {cs:Array Value} {t:TypeId} (h:Bx w k cs t) (f:Fr b w w1) (hb:b<k):Bx w1 k cs t:=(f.2 k hb h.lt).trans h
theorem Bx.later {k:Nat} {cs:Array Value} {t:TypeId} (h:Bx w k cs t) (f:Below w.heap.size w w1):Bx w1 k cs t:=(f.block k h.lt).trans h
theorem Bx.set {k:Nat} {cs:Array Value} {t:TypeId} (h:Bx w k cs t) (i:Nat) (x:Value):Bx (w.setCell ⟨k,i,none⟩ x) k (cs.setIfInBounds i x) t:=by
 unfold Bx at *;rw[setCell_eq_setRow w k i _ _ (0,0) _ h,setRow_heap w k _ _ _ _ h]
theorem Bx.other {k:Nat} {cs:Array Value} {t:TypeId} (h:Bx w k cs t) {j:Nat} (hj:k≠j) (i:Nat) (x:Value):Bx (w.setCell ⟨j,i,none⟩ x) k cs t:=(Below.heap_setCell _ _ _ _ hj).trans h
theorem Bx.new (w:World) (cs:Array Value) (t:TypeId):Bx (w.alloc (.cells cs t)) w.heap.size cs t:=heap_alloc_new w _
theorem Bx.drew {k:Nat} {cs:Array Value} {t:TypeId} (h:Bx w k cs t) (n:Nat):Bx (w.drewN n) k cs t:=h
def plc (b:Nat) (w:World):Nat:=(intOf ((w.cell? ⟨b,1,none⟩).getD (.int .i64 0))).toNat
theorem Rd.plc (h:Rd w b s p dp):plc b w=p:=by unfold Flw.plc;rw[h.c1];simp[intOf]
def zF:Array Value:=#[.int .i64 0,.int .i64 0]
def zP:Array Value:=#[.string ⟨#[]⟩,.int .i64 0,.int .i64 0]
def prC (a:Ln) (t:Int) (T:Nat):Array Value:=#[.string (mk a),.int .i64 t,.int .i64 (T:Int)]
def PrpRes (b:Nat) (s:Ln) (dp:Nat) (w:World) (r:Ot (Pr × Ln)) (e:Ending) (w':World):Prop:=match r with
 | .ok x=>(∃ T:Nat,T<=s.length/\(x.1.tag≠0->T=s.length-x.1.at_)/\e=.returned (.tuple #[.agg (prC x.1.anc x.1.tag T),f0]))/\(∃ q,q<=s.length/\x.2=s.drop q/\Rd w' b s q dp)/\Fr b w w'
 | .error f=>e=.returned (.tuple #[.agg zP,fv s.length f])/\Fr b w w'
structure Ks (b n K0 K1 K2:Nat):Prop where
 hb:b<n
 h0:n<=K0
 h1:K0<K1
 h2:K1<K2
structure Sta (w0 w:World) (b:Nat) (s:Ln) (q dp K0 K1 K2 KF:Nat) (a:Ln) (t:Int) (T:Nat) (fc:Array Value):Prop where
 rd:Rd w b s q dp
 k0:Bx w K0 zP 184
 k1:Bx w K1 zF 33
 k2:Bx w K2 (prC a t T) 184
 kf:Bx w KF fc 33
 fr:Fr b w0 w
 ks:Ks b w0.heap.size K0 K1 K2
 hf:K2<KF
variable {q q' K0 K1 K2 KF T:Nat} {a:Ln} {t:Int} {fc:Array Value} {w0:World}
theorem Sta.step (h:Sta w0 w b s q dp K0 K1 K2 KF a t T fc) (hr:Rd w1 b s q' dp) (hf:Fr b w w1):Sta w0 w1 b s q' dp K0 K1 K2 KF a t T fc:=by
 have:=h.ks.hb;have:=h.ks.h0;have:=h.ks.h1;have:=h.ks.h2;have:=h.hf;exact⟨hr,h.k0.fr hf (by omega),h.k1.fr hf (by omega),h.k2.fr hf (by omega),h.kf.fr hf (by omega),h.fr.trans hf,h.ks,h.hf⟩
theorem Sta.later (h:Sta w0 w b s q dp K0 K1 K2 KF a t T fc) (hb:Below w.heap.size w w1):Sta w0 w1 b s q dp K0 K1 K2 KF a t T fc:=h.step (h.rd.later hb) (Fr.of hb h.rd.lt)
theorem Sta.drew (h:Sta w0 w b s q dp K0 K1 K2 KF a t T fc) (n:Nat):Sta w0 (w.drewN n) b s q dp K0 K1 K2 KF a t T fc:=h.later (below_drewN (Below.refl _ _) n)
theorem Sta.setK2 (h:Sta w0 w b s q dp K0 K1 K2 KF a t T fc) (i:Nat) (x:Value) {a':Ln} {t':Int} {T':Nat} (e:(prC a t T).setIfInBounds i x=prC a' t' T'):Sta w0 (w.setCell ⟨K2,i,none⟩ x) b s q dp K0 K1 K2 KF a' t' T' fc:=by
 have:=h.ks.hb;have:=h.ks.h0;have:=h.ks.h1;have:=h.ks.h2;have:=h.hf;exact⟨h.rd.other (by omega) _ _,h.k0.other (by omega) _ _,h.k1.other (by omega) _ _,e▸h.k2.set i x,h.kf.other (by omega) _ _,h.fr.new (by omega) (by omega) _ _,h.ks,h.hf⟩
theorem Sta.setKF (h:Sta w0 w b s q dp K0 K1 K2 KF a t T fc) (x y:Value) (hz:fc.size=2):Sta w0 ((w.setCell ⟨KF,0,none⟩ x).setCell ⟨KF,1,none⟩ y) b s q dp K0 K1 K2 KF a t T #[x,y]:=by
 have:=h.ks.hb;have:=h.ks.h0;have:=h.ks.h1;have:=h.ks.h2;have:=h.hf
 have e:(fc.setIfInBounds 0 x).setIfInBounds 1 y=#[x,y]:=by
  obtain⟨l⟩:=fc
  match l,hz with
  | [u,v],_=>rfl
 exact⟨(h.rd.other (by omega) _ _).other (by omega) _ _,(h.k0.other (by omega) _ _).other (by omega) _ _,(h.k1.other (by omega) _ _).other (by omega) _ _,(h.k2.other (by omega) _ _).other (by omega) _ _,e▸(h.kf.set 0 x).set 1 y,
  (h.fr.new (by omega) (by omega) _ _).new (by omega) (by omega) _ _,h.ks,h.hf⟩
def fill (w:World) (K0 K1:Nat) (x0 x1 x2 y0 y1:Value):World:=((((w.setCell ⟨K0,0,none⟩ x0).setCell ⟨K0,1,none⟩ x1).setCell ⟨K0,2,none⟩ x2).setCell ⟨K1,0,none⟩ y0).setCell ⟨K1,1,none⟩ y1
theorem Sta.out (h:Sta w0 w b s q dp K0 K1 K2 KF a t T fc) (x0 x1 x2 y0 y1:Value) :
  Rd (fill w K0 K1 x0 x1 x2 y0 y1) b s q dp/\Fr b w0 (fill w K0 K1 x0 x1 x2 y0 y1)/\Bx (fill w K0 K1 x0 x1 x2 y0 y1) K0 #[x0,x1,x2] 184/\Bx (fill w K0 K1 x0 x1 x2 y0 y1) K1 #[y0,y1] 33:=by
 have:=h.ks.hb;have:=h.ks.h0;have:=h.ks.h1;have:=h.ks.h2;have:=h.hf
 exact⟨((((h.rd.other (by omega) _ _).other (by omega) _ _).other (by omega) _ _).other (by omega) _ _).other (by omega) _ _,
  ((((h.fr.new (by omega) (by omega) _ _).new (by omega) (by omega) _ _).new (by omega) (by omega) _ _).new (by omega) (by omega) _ _).new (by omega) (by omega) _ _,
  ((((h.k0.set 0 x0).set 1 x1).set 2 x2).other (by omega) _ _).other (by omega) _ _,
  ((((h.k1.other (by omega) _ _).other (by omega) _ _).other (by omega) _ _).set 0 y0).set 1 y1⟩
structure Stb (w0 w:World) (b:Nat) (K0 K1 K2 KF:Nat) (pc fc:Array Value):Prop where
 k0:Bx w K0 zP 184
 k1:Bx w K1 zF 33
 k2:Bx w K2 pc 184
 kf:Bx w KF fc 33
 fr:Fr b w0 w
 ks:Ks b w0.heap.size K0 K1 K2
 hf:K2<KF
theorem Sta.err (h:Sta w0 w b s q dp K0 K1 K2 KF a t T fc) (hf:Fr b w w1):Stb w0 w1 b K0 K1 K2 KF (prC a t T) fc:=by
 have:=h.ks.hb;have:=h.ks.h0;have:=h.ks.h1;have:=h.ks.h2;have:=h.hf;exact⟨h.k0.fr hf (by omega),h.k1.fr hf (by omega),h.k2.fr hf (by omega),h.kf.fr hf (by omega),h.fr.trans hf,h.ks,h.hf⟩
theorem Stb.setK2 {pc:Array Value} (h:Stb w0 w b K0 K1 K2 KF pc fc) (i:Nat) (x:Value):Stb w0 (w.setCell ⟨K2,i,none⟩ x) b K0 K1 K2 KF (pc.setIfInBounds i x) fc:=by
 have:=h.ks.hb;have:=h.ks.h0;have:=h.ks.h1;have:=h.ks.h2;have:=h.hf;exact⟨h.k0.other (by omega) _ _,h.k1.other (by omega) _ _,h.k2.set i x,h.kf.other (by omega) _ _,h.fr.new (by omega) (by omega) _ _,h.ks,h.hf⟩
theorem Stb.setKF {pc:Array Value} (h:Stb w0 w b K0 K1 K2 KF pc fc) (x y:Value) (hz:fc.size=2):Stb w0 ((w.setCell ⟨KF,0,none⟩ x).setCell ⟨KF,1,none⟩ y) b K0 K1 K2 KF pc #[x,y]:=by
 have:=h.ks.hb;have:=h.ks.h0;have:=h.ks.h1;have:=h.ks.h2;have:=h.hf
 have e:(fc.setIfInBounds 0 x).setIfInBounds 1 y=#[x,y]:=by
  obtain⟨l⟩:=fc
  match l,hz with
  | [u,v],_=>rfl
 exact⟨(h.k0.other (by omega) _ _).other (by omega) _ _,(h.k1.other (by omega) _ _).other (by omega) _ _,(h.k2.other (by omega) _ _).other (by omega) _ _,e▸(h.kf.set 0 x).set 1 y,
  (h.fr.new (by omega) (by omega) _ _).new (by omega) (by omega) _ _,h.ks,h.hf⟩
theorem Stb.later {pc:Array Value} (h:Stb w0 w b K0 K1 K2 KF pc fc) (hb:Below w.heap.size w w1):Stb w0 w1 b K0 K1 K2 KF pc fc :=
 ⟨h.k0.later hb,h.k1.later hb,h.k2.later hb,h.kf.later hb,h.fr.trans (Fr.of hb (by have:=h.k0.lt;have:=h.ks.hb;have:=h.ks.h0;omega)),h.ks,h.hf⟩
theorem Stb.out {pc:Array Value} (h:Stb w0 w b K0 K1 K2 KF pc fc) (x0 x1 x2 y0 y1:Value) :
  True/\Fr b w0 (fill w K0 K1 x0 x1 x2 y0 y1)/\Bx (fill w K0 K1 x0 x1 x2 y0 y1) K0 #[x0,x1,x2] 184/\Bx (fill w K0 K1 x0 x1 x2 y0 y1) K1 #[y0,y1] 33:=by
 have:=h.ks.hb;have:=h.ks.h0;have:=h.ks.h1;have:=h.ks.h2;have:=h.hf
 exact⟨trivial,
  ((((h.fr.new (by omega) (by omega) _ _).new (by omega) (by omega) _ _).new (by omega) (by omega) _ _).new (by omega) (by omega) _ _).new (by omega) (by omega) _ _,
  ((((h.k0.set 0 x0).set 1 x1).set 2 x2).other (by omega) _ _).other (by omega) _ _,
  ((((h.k1.other (by omega) _ _).other (by omega) _ _).other (by omega) _ _).set 0 y0).set 1 y1⟩
theorem see_hd (s:Ln) (q:Nat) {c:UInt8} (hc:c≠0):see s q [c]=decide (hd (gaps (s.drop q))=c):=by
 unfold see hd
 cases gaps (s.drop q)with
 | nil=>simpa using fun e=>hc e.symm
 | cons x r=>rw[Bool.eq_iff_iff];simp
theorem see_two (s:Ln) (q:Nat) {c:UInt8} (hc:c≠0):see s q [c,c]=decide (hd (gaps (s.drop q))=c/\hd ((gaps (s.drop q)).drop 1)=c):=by
 unfold see hd
 match gaps (s.drop q)with
 | []=>simpa using fun e=>absurd e.symm hc
 | [x]=>simpa using fun _ e=>hc e.symm
 | x::y::r=>rw[Bool.eq_iff_iff];simp
theorem properties_any (f:Bool) (h:Rd w b s p dp) (hp:p<=s.length) (hs:s.length<=65536) :
  Calls Tryz.prog 137 #[.pointer (some ⟨b,0,none⟩),.bool f] w fun e w'=>PrpRes b s dp w (lprp f 3 p0 (s.drop p)) e w':=by
 obtain⟨R,HR0⟩:∃ R,Hid (R=lprp f 3 p0 (s.drop p)):=⟨_,rfl⟩;rw[<-HR0.out];have hlt:=h.lt
 have HS0:Hid (Rd (((w.alloc (.cells zP 184)).alloc (.cells zF 33)).alloc (.cells zP 184)) b s p dp/\Bx (((w.alloc (.cells zP 184)).alloc (.cells zF 33)).alloc (.cells zP 184)) w.heap.size zP 184/\Bx (((w.alloc (.cells zP 184)).alloc (.cells zF 33)).alloc (.cells zP 184)) (w.heap.size+1) zF 33/\Bx (((w.alloc (.cells zP 184)).alloc (.cells zF 33)).alloc (.cells zP 184)) (w.heap.size+1+1) (prC [] 0 0) 184/\Fr b w (((w.alloc (.cells zP 184)).alloc (.cells zF 33)).alloc (.cells zP 184))):=by
  have b1:=below_alloc w (.cells zP 184);have b2:=below_alloc (w.alloc (.cells zP 184)) (.cells zF 33);have b3:=below_alloc ((w.alloc (.cells zP 184)).alloc (.cells zF 33)) (.cells zP 184);have e1:(w.alloc (.cells zP 184)).heap.size=w.heap.size+1:=by simp
  have e2:((w.alloc (.cells zP 184)).alloc (.cells zF 33)).heap.size=w.heap.size+1+1:=by simp
  have x0:=((Bx.new w zP 184).later b2).later b3;have x1:=(Bx.new (w.alloc (.cells zP 184)) zF 33).later b3;have x2:=Bx.new ((w.alloc (.cells zP 184)).alloc (.cells zF 33)) zP 184;rw[e1]at x1;rw[e2]at x2;exact⟨((h.later b1).later b2).later b3,x0,x1,x2,Fr.of (b1.trans ((b2.mono (by rw[e1];omega)).trans (b3.mono (by rw[e2];omega)))) hlt⟩
 clear h;go_enter Tryz.func137,Tryz.ntmps137;go_wp2;change Code.wp _ _ _ _ (((w.alloc (.cells zP 184)).alloc (.cells zF 33)).alloc (.cells zP 184));generalize ((w.alloc (.cells zP 184)).alloc (.cells zF 33)).alloc (.cells zP 184)=W0 at HS0 |-;have HK:Hid (Ks b w.heap.size w.heap.size (w.heap.size+1) (w.heap.size+1+1)):=⟨hlt,Nat.le_refl _,by omega,by omega⟩;obtain⟨N,hN⟩:∃ N,N=w.heap.size:=⟨_,rfl⟩;generalize hK2:w.heap.size+1+1=K2 at HK HS0 |-;generalize hK1:w.heap.size+1=K1 at HK HS0 |-;rw[<-hN]at HK hlt;generalize hK0:w.heap.size=K0 at HK HS0 |-;clear hK2 hK1;have HK':Hid (Ks b w.heap.size K0 K1 K2):=by rw[hN,hK0]at HK;rw[hK0];exact HK
 clear HK hK0 hN hlt;clear N
 go_loopw [] (fun wr=>∃ (P:Pr) (q T n:Nat),q<=s.length/\T<=s.length/\(Rd wr b s q dp/\Bx wr K0 zP 184/\Bx wr K1 zF 33/\Bx wr K2 (prC P.anc P.tag T) 184/\Fr b w wr) /\
  (P.tag≠0->T=s.length-P.at_)/\(0<=P.tag/\P.tag<=6)/\(P.anc=[]->P.tag=0->2<=n)/\(P.anc=[]\/P.tag=0->1<=n)/\R=lprp f (n+1) P (s.drop q)) (fun wr=>s.length-plc b wr)
 case atStart=>exact⟨p0,p,0,2,hp,Nat.zero_le _,HS0.out,fun e=>absurd rfl e,⟨by decide,by decide⟩,fun _ _=>by decide,fun _=>by decide,HR0.out⟩
 case round =>
  clear HS0 HR0;clear W0;obtain⟨P,q,T,n,hq,hT,⟨hr,x0,x1,x2,hfr⟩,hat,htag,hn2,hn1,hE⟩:=hrel;obtain⟨a,t,at_,sm⟩:=P;simp only at hat htag hn2 hn1 x2;have HE:Hid (R=lprp f (n+1) ⟨a,t,at_,sm⟩ (s.drop q)):=hE;have HAT:Hid (t≠0->T=s.length-at_):=hat;have HN2:Hid (a=[]->t=0->2<=n):=hn2;have HN1:Hid (a=[]\/t=0->1<=n):=hn1;have hxs:=x2.lt;have hba:=below_alloc wr (.cells zF 33)
  have HS:Hid (Sta w (wr.alloc (.cells zF 33)) b s q dp K0 K1 K2 wr.heap.size a t T zF) :=
   ⟨hr.later hba,x0.later hba,x1.later hba,x2.later hba,Bx.new _ _ _,hfr.trans (Fr.of hba hr.lt),HK'.out,hxs⟩
  have HPL:Hid (plc b wr=q):=hr.plc;clear hr x0 x1 x2 hfr hat hn2 hn1 hE hba hxs;have hat1:((mk a).toList==[])=(a==[]):=by rw[ByteArray.toList_eq,mk_data]
  obtain⟨W1,hW1⟩:∃ W1,wr.alloc (.cells #[.int .i64 0,.int .i64 0] 33)=W1:=⟨_,rfl⟩;have HS1:Hid (Sta w W1 b s q dp K0 K1 K2 wr.heap.size a t T zF):=by rw[<-hW1];exact HS.out
  clear HS;have g0:W1.cell? ⟨K2,0,none⟩=some (.string (mk a)):=HS1.out.k2.cell 0;have g1:W1.cell? ⟨K2,1,none⟩=some (.int .i64 t):=HS1.out.k2.cell 1;have hd10:K1≠K0:=by have:=HK'.out.h1;omega
  have hd01:K0≠K1:=by omega
  by_cases cA:a=[]/\hd (gaps (s.drop q))=38
  ·have hq1:nx s q+1<=s.length:=by
    have h1:=gaps_nx s hq
    have h2:1<=(gaps (s.drop q)).length:=by
     have:=(hd_ne (l:=gaps (s.drop q)) (by rw[cA.2];decide)).2;omega
    omega
   have hdr:s.drop (nx s q+1)=(gaps (s.drop q)).drop 1:=by rw[<-List.drop_drop,drop_nx s hq]
   have HE1:Hid (R=bnd (nam (s.drop (nx s q+1))) fun x=>if ends f x.2=true then lprp f n ⟨x.1,t,at_,true⟩ x.2 else .error (3,x.2.length)):=by
    have:=HE.out;unfold lprp at this;rw[if_pos cA]at this;rw[hdr];exact this
   have HYT:Hid (∀ k,Calls Tryz.prog 135 #[.pointer (some ⟨b,0,none⟩),.string ⟨#[38]⟩] (W1.drewN k) fun e w'=>e=.returned (.bool true)/\Hid (Sta w w' b s (nx s q+1) dp K0 K1 K2 wr.heap.size a t T zF)):=fun k =>
    (takes_yes [38] (HS1.out.rd.drew k) hq hs (by decide) (by rw[see_hd s q (by decide)];simpa using cA.2)).mono (fun e w' h=>⟨h.1,(HS1.out.drew k).step h.2.1 h.2.2⟩)
   have ha:=cA.1;clear cA HE hdr;subst ha;go_wp2_with fail;refine(HYT.out 0).mono ?_;rintro e w1 ⟨rfl,HS2⟩;have hqq:q<nx s q+1:=by have:=nx_ge s hq;omega
   generalize nx s q+1=q1 at *;have HNM:Hid (Calls Tryz.prog 136 #[.pointer (some ⟨b,0,none⟩)] w1 fun e w'=>NamRes b s dp w1 (nam (s.drop q1)) e w'):=name_any HS2.out.rd hq1 hs;have HBD:Hid (∀ e,nam (s.drop q1)=.error e->e.1≠0):=nam_bad _;generalize hres:nam (s.drop q1)=res at HNM HE1 HBD
   cases res with
   | error F =>
    clear hres;have HV:Hid (R=.error F):=HE1.out;have hF0:((F.1:Int)==0)=false:=by have:=HBD.out F rfl;rw[beq_eq_false_iff_ne];omega
    have hF1:((F.1:Int)!=0)=true:=by simpa using hF0
    clear HE1 HBD;go_wp2_with fail;refine HNM.out.mono ?_;rintro e w3 ⟨rfl,hfr3⟩;unfold fv;have HB3:Hid (Stb w w3 b K0 K1 K2 wr.heap.size (prC [] t T) zF):=HS2.out.err hfr3;clear hfr3 HS2 HNM HYT;obtain⟨w4,hw4⟩:∃ w4,((w3.setCell ⟨K2,0,none⟩ (.string (mk []))).setCell ⟨wr.heap.size,0,none⟩ (.int .i64 (F.1:Int))).setCell ⟨wr.heap.size,1,none⟩ (.int .i64 ((s.length-F.2:Nat):Int))=w4:=⟨_,rfl⟩;have HB4:=(HB3.out.setK2 0 (.string (mk []))).setKF (.int .i64 (F.1:Int)) (.int .i64 ((s.length-F.2:Nat):Int)) rfl;rw[hw4]at HB4;have HB4:Hid _:=HB4;have e0:w3.cell? ⟨K2,0,none⟩=some (.string (mk [])):=HB3.out.k2.cell 0;have e1:w3.frozen? ⟨K2,0,none⟩=false:=HB3.out.k2.fz 0;obtain⟨e2,e3⟩:=HB3.out.kf.c2;have e4:w3.frozen? ⟨wr.heap.size,0,none⟩=false:=HB3.out.kf.fz 0;have e5:w3.frozen? ⟨wr.heap.size,1,none⟩=false:=HB3.out.kf.fz 1;have hne1:wr.heap.size≠K2:=by have:=HB3.out.hf;omega
    have hne2:K2≠wr.heap.size:=by omega
    have hne3:wr.heap.size≠K0:=by have:=HB3.out.ks.h1;have:=HB3.out.ks.h2;have:=HB3.out.hf;omega
    have hne4:K0≠wr.heap.size:=by omega
    have hne5:wr.heap.size≠K1:=by have:=HB3.out.ks.h2;have:=HB3.out.hf;omega
    have hne6:K1≠wr.heap.size:=by omega
    clear HB3;obtain⟨i0,i1⟩:=HB4.out.kf.c2;obtain⟨X0,X1,X2⟩:=(HB4.out).k0.c3;obtain⟨Y0,Y1⟩:=(HB4.out).k1.c2;have Z0:w4.frozen? ⟨K0,0,none⟩=false:=(HB4.out).k0.fz 0;have Z1:w4.frozen? ⟨K0,1,none⟩=false:=(HB4.out).k0.fz 1;have Z2:w4.frozen? ⟨K0,2,none⟩=false:=(HB4.out).k0.fz 2;have V0:w4.frozen? ⟨K1,0,none⟩=false:=(HB4.out).k1.fz 0;have V1:w4.frozen? ⟨K1,1,none⟩=false:=(HB4.out).k1.fz 1;go_wp2;go_region
    all_goals
     go_wp2;have hO:=(HB4.out).out (.string ⟨#[]⟩) (.int .i64 0) (.int .i64 0) (.int .i64 (F.1:Int)) (.int .i64 ((s.length-F.2:Nat):Int));change bodyPost _ _ _ _ _ (fill w4 K0 K1 (.string ⟨#[]⟩) (.int .i64 0) (.int .i64 0) (.int .i64 (F.1:Int)) (.int .i64 ((s.length-F.2:Nat):Int))).drew;generalize fill w4 K0 K1 (.string ⟨#[]⟩) (.int .i64 0) (.int .i64 0) (.int .i64 (F.1:Int)) (.int .i64 ((s.length-F.2:Nat):Int))=WF at hO |-;obtain⟨o1,o2,o3,o4⟩:=hO;have j0:WF.drew.cell? ⟨K0,0,none⟩=_:=o3.cell 0;have j1:WF.drew.cell? ⟨K0,1,none⟩=_:=o3.cell 1;have j2:WF.drew.cell? ⟨K0,2,none⟩=_:=o3.cell 2;have j3:WF.drew.cell? ⟨K1,0,none⟩=_:=o4.cell 0;have j4:WF.drew.cell? ⟨K1,1,none⟩=_:=o4.cell 1;refine bodyPost_ret (v:=.tuple #[.agg #[.string ⟨#[]⟩,.int .i64 0,.int .i64 0],.agg #[.int .i64 (F.1:Int),.int .i64 ((s.length-F.2:Nat):Int)]]) (by simp[results,Tryz.results137,go_sem,j0,j1,j2,j3,j4]) rfl ?_;rw[HV.out];exact⟨rfl,o2.drew⟩
   | ok x =>
    obtain⟨x1,x2⟩:=x;have HOK:=HBD;clear HBD HOK;go_wp2_with fail;refine HNM.out.mono ?_;rintro e w3 ⟨rfl,⟨q2,hq2,hx2,hr3⟩,hfr3⟩;simp only at hx2;subst hx2;have HS4:Hid (Sta w w3 b s q2 dp K0 K1 K2 wr.heap.size [] t T zF):=HS2.out.step hr3 hfr3;clear hr3 hfr3 HS2 HNM HYT;unfold f0;simp only[];have hxn:=nam_inv hres;simp only[List.length_drop]at hxn;have HNA:Hid (isName x1=true):=hxn.1;have hq12:q1<=q2:=by omega
    clear hxn;clear hres;obtain⟨w4,hw4⟩:∃ w4,((w3.setCell ⟨K2,0,none⟩ (.string (mk x1))).setCell ⟨wr.heap.size,0,none⟩ (.int .i64 0)).setCell ⟨wr.heap.size,1,none⟩ (.int .i64 0)=w4:=⟨_,rfl⟩;have hS5:Sta w (((w3.setCell ⟨K2,0,none⟩ (.string (mk x1))).setCell ⟨wr.heap.size,0,none⟩ (.int .i64 0)).setCell ⟨wr.heap.size,1,none⟩ (.int .i64 0)) b s q2 dp K0 K1 K2 wr.heap.size x1 t T #[.int .i64 0,.int .i64 0]:=(HS4.out.setK2 0 (.string (mk x1)) rfl).setKF (.int .i64 0) (.int .i64 0) rfl;rw[hw4]at hS5;have HS5:Hid (Sta w w4 b s q2 dp K0 K1 K2 wr.heap.size x1 t T #[.int .i64 0,.int .i64 0]):=hS5;clear hS5;have e0:w3.cell? ⟨K2,0,none⟩=some (.string (mk [])):=HS4.out.k2.cell 0;have e1:w3.frozen? ⟨K2,0,none⟩=false:=HS4.out.k2.fz 0;obtain⟨e2,e3⟩:=HS4.out.kf.c2;have e4:w3.frozen? ⟨wr.heap.size,0,none⟩=false:=HS4.out.kf.fz 0;have e5:w3.frozen? ⟨wr.heap.size,1,none⟩=false:=HS4.out.kf.fz 1;have hne1:wr.heap.size≠K2:=by have:=HS4.out.hf;omega
    have hne2:K2≠wr.heap.size:=by omega
    clear HS4;obtain⟨i0,i1⟩:=HS5.out.kf.c2;have i2:w4.frozen? ⟨wr.heap.size,0,none⟩=false:=HS5.out.kf.fz 0;have i3:w4.frozen? ⟨wr.heap.size,1,none⟩=false:=HS5.out.kf.fz 1;have i4:=HS5.out.rd.c1;obtain⟨E,HEE⟩:∃ E,Hid (E=ends f (s.drop q2)):=⟨_,rfl⟩;have HEW:Hid (Calls Tryz.prog 167 #[.pointer (some ⟨b,0,none⟩),.bool f] w4 fun e w'=>e=.returned (.bool E)/\∃ n,w'=w4.drewN n):=by rw[HEE.out];exact endsWord_any f HS5.out.rd hq2 hs
    cases E
    ·have HV:Hid (R=.error (stands (s.drop q2))):=by
      have:=HE1.out;rw[bnd_ok]at this;simp only at this;rw[if_neg (by rw[<-HEE.out];decide)]at this;rw[this]
      have hne:s.drop q2≠[]:=by
       intro e;have h2:=HEE.out;rw[e]at h2;exact absurd h2 (by unfold ends;simp)
      show Except.error _=Except.error _;unfold stands;rw[if_neg hne]
     have HWA:Hid (∀ k,Calls Tryz.prog 165 #[.pointer (some ⟨b,0,none⟩),.int .i64 (q2:Int)] (w4.drewN k) fun e w'=>e=.returned (fv s.length (stands (s.drop q2)))/\Below (w4.drewN k).heap.size (w4.drewN k) w'):=fun k=>wrongAt_any q2 (HS5.out.rd.drew k) hq2 hs
     have hF:=stands_ne (s.drop q2);generalize stands (s.drop q2)=F at *;have hF1:((F.1:Int)!=0)=true:=by simpa using hF
     clear HE1 HEE;go_wp2_with (go_at_call 167;refine HEW.out.mono ?_;rintro e w' ⟨rfl,n3,rfl⟩);refine(HWA.out _).mono ?_;rintro e w5 ⟨rfl,hb5⟩;unfold fv;have HB6:=((HS5.out.drew n3).later hb5).err Fr.refl;obtain⟨k0,k1⟩:=HB6.kf.c2;have k2:w5.frozen? ⟨wr.heap.size,0,none⟩=false:=HB6.kf.fz 0;have k3:w5.frozen? ⟨wr.heap.size,1,none⟩=false:=HB6.kf.fz 1;have HB7:=HB6.setKF (.int .i64 (F.1:Int)) (.int .i64 ((s.length-F.2:Nat):Int)) rfl;obtain⟨w6,hw6⟩:∃ w6,(w5.setCell ⟨wr.heap.size,0,none⟩ (.int .i64 (F.1:Int))).setCell ⟨wr.heap.size,1,none⟩ (.int .i64 ((s.length-F.2:Nat):Int))=w6:=⟨_,rfl⟩;rw[hw6]at HB7;have HB7:Hid _:=HB7;clear HB6 HS5;obtain⟨l0,l1⟩:=HB7.out.kf.c2;obtain⟨X0,X1,X2⟩:=(HB7.out).k0.c3;obtain⟨Y0,Y1⟩:=(HB7.out).k1.c2;have Z0:w6.frozen? ⟨K0,0,none⟩=false:=(HB7.out).k0.fz 0;have Z1:w6.frozen? ⟨K0,1,none⟩=false:=(HB7.out).k0.fz 1;have Z2:w6.frozen? ⟨K0,2,none⟩=false:=(HB7.out).k0.fz 2;have V0:w6.frozen? ⟨K1,0,none⟩=false:=(HB7.out).k1.fz 0;have V1:w6.frozen? ⟨K1,1,none⟩=false:=(HB7.out).k1.fz 1;have hne3:wr.heap.size≠K0:=by have:=HB7.out.ks.h1;have:=HB7.out.ks.h2;have:=HB7.out.hf;omega
     have hne4:K0≠wr.heap.size:=by omega
     have hne5:wr.heap.size≠K1:=by have:=HB7.out.ks.h2;have:=HB7.out.hf;omega
     have hne6:K1≠wr.heap.size:=by omega
     go_wp2;go_region
     all_goals
      go_wp2;have hO:=(HB7.out).out (.string ⟨#[]⟩) (.int .i64 0) (.int .i64 0) (.int .i64 (F.1:Int)) (.int .i64 ((s.length-F.2:Nat):Int));change bodyPost _ _ _ _ _ (fill w6 K0 K1 (.string ⟨#[]⟩) (.int .i64 0) (.int .i64 0) (.int .i64 (F.1:Int)) (.int .i64 ((s.length-F.2:Nat):Int))).drew;generalize fill w6 K0 K1 (.string ⟨#[]⟩) (.int .i64 0) (.int .i64 0) (.int .i64 (F.1:Int)) (.int .i64 ((s.length-F.2:Nat):Int))=WF at hO |-;obtain⟨o1,o2,o3,o4⟩:=hO;have j0:WF.drew.cell? ⟨K0,0,none⟩=_:=o3.cell 0;have j1:WF.drew.cell? ⟨K0,1,none⟩=_:=o3.cell 1;have j2:WF.drew.cell? ⟨K0,2,none⟩=_:=o3.cell 2;have j3:WF.drew.cell? ⟨K1,0,none⟩=_:=o4.cell 0;have j4:WF.drew.cell? ⟨K1,1,none⟩=_:=o4.cell 1;refine bodyPost_ret (v:=.tuple #[.agg #[.string ⟨#[]⟩,.int .i64 0,.int .i64 0],.agg #[.int .i64 (F.1:Int),.int .i64 ((s.length-F.2:Nat):Int)]]) (by simp[results,Tryz.results137,go_sem,j0,j1,j2,j3,j4]) rfl ?_;rw[HV.out];exact⟨rfl,o2.drew⟩
    ·have HV:Hid (R=lprp f n ⟨x1,t,at_,true⟩ (s.drop q2)):=by
      have:=HE1.out;rw[bnd_ok]at this;simp only at this;rw[if_pos (by rw[<-HEE.out])]at this;exact this
     clear HE1 HEE;go_wp2_with (go_at_call 167;refine HEW.out.mono ?_;rintro e w' ⟨rfl,n3,rfl⟩);go_roundw
     case rel =>
      have h5:=HS5.out.drew n3;have hn:n=(n-1)+1:=by have:=HN1.out (.inl (by first | rfl | trivial));omega
      refine⟨⟨x1,t,at_,true⟩,q2,T,n-1,hq2,hT,⟨h5.rd,h5.k0,h5.k1,h5.k2,h5.fr⟩,HAT.out,htag,?_,?_,by rw[<-hn];exact HV.out⟩
      ·intro e _;exact absurd e (isName_hd HNA.out)
      ·rintro(e | e)
       ·exact absurd e (isName_hd HNA.out)
       ·have:=HN2.out (by first | rfl | trivial) e;omega
     case measure =>
      rw[HPL.out,(HS5.out.drew n3).rd.plc];omega
  by_cases cB:t=0/\hd (gaps (s.drop q))=33/\hd ((gaps (s.drop q)).drop 1)=33
  ·by_cases ha:a=[]
   ·have hq1:nx s q+2<=s.length:=by
     have h1:=gaps_nx s hq
     have h2:2<=(gaps (s.drop q)).length:=by
      have:=(hd_ne (l:=gaps (s.drop q)) (by rw[cB.2.1];decide)).2;have:=(hd_ne (l:=(gaps (s.drop q)).drop 1) (by rw[cB.2.2];decide)).2;omega
     omega
    have hdr:s.drop (nx s q+2)=(gaps (s.drop q)).drop 2:=by rw[<-List.drop_drop,drop_nx s hq]
    have HE1:Hid (R=bnd (tag (s.drop (nx s q+2))) fun x=>if ends f x.2=true then lprp f n ⟨a,x.1,s.length-nx s q,true⟩ x.2 else .error (3,x.2.length)):=by
     have:=HE.out;unfold lprp at this;rw[if_neg cA,if_pos cB]at this;rw[hdr,<-gaps_nx s hq];exact this
    have HYT:Hid (∀ k,Calls Tryz.prog 135 #[.pointer (some ⟨b,0,none⟩),.string ⟨#[33,33]⟩] (W1.drewN k) fun e w'=>e=.returned (.bool true)/\Hid (Sta w w' b s (nx s q+2) dp K0 K1 K2 wr.heap.size a t T zF)):=fun k =>
     (takes_yes [33,33] (HS1.out.rd.drew k) hq hs (by decide) (by rw[see_two s q (by decide)];simpa using cB.2)).mono (fun e w' h=>⟨h.1,(HS1.out.drew k).step h.2.1 h.2.2⟩)
    have ht:=cB.1
    have HA:Hid (∀ k,Calls Tryz.prog 135 #[.pointer (some ⟨b,0,none⟩),.string ⟨#[38]⟩] (W1.drewN k) fun e w'=>e=.returned (.bool false)/\∃ n,w'=(W1.drewN k).drewN n):=fun k =>
     takes_no [38] (HS1.out.rd.drew k) hq hs (by decide) (by rw[see_hd s q (by decide)];simpa using fun e=>cA ⟨ha,e⟩)
    clear cA cB HE hdr;subst ha;subst ht;go_wp2_with fail;refine(HA.out 0).mono ?_;rintro e w' ⟨rfl,n1,rfl⟩;go_wp2_with fail;refine(HYT.out _).mono ?_;rintro e w1 ⟨rfl,HS2⟩;have hqq:q<nx s q+1:=by have:=nx_ge s hq;omega
    have c1:=HS2.out.rd.c1;have zK2:w1.frozen? ⟨K2,2,none⟩=false:=HS2.out.k2.fz 2;have gK2:w1.cell? ⟨K2,2,none⟩=some (.int .i64 (T:Int)):=HS2.out.k2.cell 2;have HS3:Hid (Sta w (w1.setCell ⟨K2,2,none⟩ (.int .i64 (nx s q:Int))) b s (nx s q+2) dp K0 K1 K2 wr.heap.size [] 0 (nx s q) zF):=HS2.out.setK2 2 _ rfl;have hc1:(((nx s q+2:Nat):Int)-2)=(nx s q:Int):=by omega
    rw[show ((nx s q+2:Nat):Int)=(nx s q:Int)+2 from by omega]at c1;clear HS2;obtain⟨w2,hw2⟩:∃ w2,w1.setCell ⟨K2,2,none⟩ (.int .i64 (nx s q:Int))=w2:=⟨_,rfl⟩;rw[hw2]at HS3;generalize nx s q=q0 at *;have HNM:Hid (Calls Tryz.prog 166 #[.pointer (some ⟨b,0,none⟩)] w2 fun e w'=>TagRes b s dp w2 (tag (s.drop (q0+2))) e w'):=tag_any HS3.out.rd hq1 hs;have HBD:Hid (∀ e,tag (s.drop (q0+2))=.error e->e.1≠0):=tag_bad _;generalize hres:tag (s.drop (q0+2))=res at HNM HE1 HBD
    cases res with
    | error F =>
     clear hres;have HV:Hid (R=.error F):=HE1.out;have hF0:((F.1:Int)==0)=false:=by have:=HBD.out F rfl;rw[beq_eq_false_iff_ne];omega
     have hF1:((F.1:Int)!=0)=true:=by simpa using hF0
     clear HE1 HBD;go_wp2_with fail;refine HNM.out.mono ?_;rintro e w3 ⟨rfl,hfr3⟩;unfold fv;have HB3:Hid (Stb w w3 b K0 K1 K2 wr.heap.size (prC [] 0 q0) zF):=HS3.out.err hfr3;clear hfr3 HS3 HNM HYT;obtain⟨w4,hw4⟩:∃ w4,((w3.setCell ⟨K2,1,none⟩ (.int .i64 0)).setCell ⟨wr.heap.size,0,none⟩ (.int .i64 (F.1:Int))).setCell ⟨wr.heap.size,1,none⟩ (.int .i64 ((s.length-F.2:Nat):Int))=w4:=⟨_,rfl⟩;have HB4:=(HB3.out.setK2 1 (.int .i64 0)).setKF (.int .i64 (F.1:Int)) (.int .i64 ((s.length-F.2:Nat):Int)) rfl;rw[hw4]at HB4;have HB4:Hid _:=HB4;have e0:w3.cell? ⟨K2,1,none⟩=some (.int .i64 0):=HB3.out.k2.cell 1;have e1:w3.frozen? ⟨K2,1,none⟩=false:=HB3.out.k2.fz 1;obtain⟨e2,e3⟩:=HB3.out.kf.c2;have e4:w3.frozen? ⟨wr.heap.size,0,none⟩=false:=HB3.out.kf.fz 0;have e5:w3.frozen? ⟨wr.heap.size,1,none⟩=false:=HB3.out.kf.fz 1;have hne1:wr.heap.size≠K2:=by have:=HB3.out.hf;omega
     have hne2:K2≠wr.heap.size:=by omega
     have hne3:wr.heap.size≠K0:=by have:=HB3.out.ks.h1;have:=HB3.out.ks.h2;have:=HB3.out.hf;omega
     have hne4:K0≠wr.heap.size:=by omega
     have hne5:wr.heap.size≠K1:=by have:=HB3.out.ks.h2;have:=HB3.out.hf;omega
     have hne6:K1≠wr.heap.size:=by omega
     clear HB3;obtain⟨i0,i1⟩:=HB4.out.kf.c2;obtain⟨X0,X1,X2⟩:=(HB4.out).k0.c3;obtain⟨Y0,Y1⟩:=(HB4.out).k1.c2;have Z0:w4.frozen? ⟨K0,0,none⟩=false:=(HB4.out).k0.fz 0;have Z1:w4.frozen? ⟨K0,1,none⟩=false:=(HB4.out).k0.fz 1;have Z2:w4.frozen? ⟨K0,2,none⟩=false:=(HB4.out).k0.fz 2;have V0:w4.frozen? ⟨K1,0,none⟩=false:=(HB4.out).k1.fz 0;have V1:w4.frozen? ⟨K1,1,none⟩=false:=(HB4.out).k1.fz 1;go_wp2;go_region
     all_goals
      go_wp2;have hO:=(HB4.out).out (.string ⟨#[]⟩) (.int .i64 0) (.int .i64 0) (.int .i64 (F.1:Int)) (.int .i64 ((s.length-F.2:Nat):Int));change bodyPost _ _ _ _ _ (fill w4 K0 K1 (.string ⟨#[]⟩) (.int .i64 0) (.int .i64 0) (.int .i64 (F.1:Int)) (.int .i64 ((s.length-F.2:Nat):Int))).drew;generalize fill w4 K0 K1 (.string ⟨#[]⟩) (.int .i64 0) (.int .i64 0) (.int .i64 (F.1:Int)) (.int .i64 ((s.length-F.2:Nat):Int))=WF at hO |-;obtain⟨o1,o2,o3,o4⟩:=hO;have j0:WF.drew.cell? ⟨K0,0,none⟩=_:=o3.cell 0;have j1:WF.drew.cell? ⟨K0,1,none⟩=_:=o3.cell 1;have j2:WF.drew.cell? ⟨K0,2,none⟩=_:=o3.cell 2;have j3:WF.drew.cell? ⟨K1,0,none⟩=_:=o4.cell 0;have j4:WF.drew.cell? ⟨K1,1,none⟩=_:=o4.cell 1;refine bodyPost_ret (v:=.tuple #[.agg #[.string ⟨#[]⟩,.int .i64 0,.int .i64 0],.agg #[.int .i64 (F.1:Int),.int .i64 ((s.length-F.2:Nat):Int)]]) (by simp[results,Tryz.results137,go_sem,j0,j1,j2,j3,j4]) rfl ?_;rw[HV.out];exact⟨rfl,o2.drew⟩
    | ok x =>
     obtain⟨x1,x2⟩:=x;have HOK:=HBD;clear HBD HOK;go_wp2_with fail;refine HNM.out.mono ?_;rintro e w3 ⟨rfl,⟨q2,hq2,hx2,hr3⟩,hfr3⟩;simp only at hx2;subst hx2;have HS4:Hid (Sta w w3 b s q2 dp K0 K1 K2 wr.heap.size [] 0 q0 zF):=HS3.out.step hr3 hfr3;clear hr3 hfr3 HS3 HNM HYT;unfold f0;simp only[];have hxn:=tag_inv hres;simp only[List.length_drop]at hxn;have hx1:1<=x1/\x1<=6:=⟨hxn.1,hxn.2.1⟩;have hq12:q0+2<=q2:=by omega
     clear hxn;clear hres;obtain⟨w4,hw4⟩:∃ w4,((w3.setCell ⟨K2,1,none⟩ (.int .i64 x1)).setCell ⟨wr.heap.size,0,none⟩ (.int .i64 0)).setCell ⟨wr.heap.size,1,none⟩ (.int .i64 0)=w4:=⟨_,rfl⟩;have hS5:Sta w (((w3.setCell ⟨K2,1,none⟩ (.int .i64 x1)).setCell ⟨wr.heap.size,0,none⟩ (.int .i64 0)).setCell ⟨wr.heap.size,1,none⟩ (.int .i64 0)) b s q2 dp K0 K1 K2 wr.heap.size [] x1 q0 #[.int .i64 0,.int .i64 0]:=(HS4.out.setK2 1 (.int .i64 x1) rfl).setKF (.int .i64 0) (.int .i64 0) rfl;rw[hw4]at hS5;have HS5:Hid (Sta w w4 b s q2 dp K0 K1 K2 wr.heap.size [] x1 q0 #[.int .i64 0,.int .i64 0]):=hS5;clear hS5;have e0:w3.cell? ⟨K2,1,none⟩=some (.int .i64 0):=HS4.out.k2.cell 1;have e1:w3.frozen? ⟨K2,1,none⟩=false:=HS4.out.k2.fz 1;obtain⟨e2,e3⟩:=HS4.out.kf.c2;have e4:w3.frozen? ⟨wr.heap.size,0,none⟩=false:=HS4.out.kf.fz 0;have e5:w3.frozen? ⟨wr.heap.size,1,none⟩=false:=HS4.out.kf.fz 1;have hne1:wr.heap.size≠K2:=by have:=HS4.out.hf;omega
     have hne2:K2≠wr.heap.size:=by omega
     clear HS4;obtain⟨i0,i1⟩:=HS5.out.kf.c2;have i2:w4.frozen? ⟨wr.heap.size,0,none⟩=false:=HS5.out.kf.fz 0;have i3:w4.frozen? ⟨wr.heap.size,1,none⟩=false:=HS5.out.kf.fz 1;have i4:=HS5.out.rd.c1;obtain⟨E,HEE⟩:∃ E,Hid (E=ends f (s.drop q2)):=⟨_,rfl⟩;have HEW:Hid (Calls Tryz.prog 167 #[.pointer (some ⟨b,0,none⟩),.bool f] w4 fun e w'=>e=.returned (.bool E)/\∃ n,w'=w4.drewN n):=by rw[HEE.out];exact endsWord_any f HS5.out.rd hq2 hs
     cases E
     ·have HV:Hid (R=.error (stands (s.drop q2))):=by
       have:=HE1.out;rw[bnd_ok]at this;simp only at this;rw[if_neg (by rw[<-HEE.out];decide)]at this;rw[this]
       have hne:s.drop q2≠[]:=by
        intro e;have h2:=HEE.out;rw[e]at h2;exact absurd h2 (by unfold ends;simp)
       show Except.error _=Except.error _;unfold stands;rw[if_neg hne]
      have HWA:Hid (∀ k,Calls Tryz.prog 165 #[.pointer (some ⟨b,0,none⟩),.int .i64 (q2:Int)] (w4.drewN k) fun e w'=>e=.returned (fv s.length (stands (s.drop q2)))/\Below (w4.drewN k).heap.size (w4.drewN k) w'):=fun k=>wrongAt_any q2 (HS5.out.rd.drew k) hq2 hs
      have hF:=stands_ne (s.drop q2);generalize stands (s.drop q2)=F at *;have hF1:((F.1:Int)!=0)=true:=by simpa using hF
      clear HE1 HEE;go_wp2_with (go_at_call 167;refine HEW.out.mono ?_;rintro e w' ⟨rfl,n3,rfl⟩);refine(HWA.out _).mono ?_;rintro e w5 ⟨rfl,hb5⟩;unfold fv;have HB6:=((HS5.out.drew n3).later hb5).err Fr.refl;obtain⟨k0,k1⟩:=HB6.kf.c2;have k2:w5.frozen? ⟨wr.heap.size,0,none⟩=false:=HB6.kf.fz 0;have k3:w5.frozen? ⟨wr.heap.size,1,none⟩=false:=HB6.kf.fz 1;have HB7:=HB6.setKF (.int .i64 (F.1:Int)) (.int .i64 ((s.length-F.2:Nat):Int)) rfl;obtain⟨w6,hw6⟩:∃ w6,(w5.setCell ⟨wr.heap.size,0,none⟩ (.int .i64 (F.1:Int))).setCell ⟨wr.heap.size,1,none⟩ (.int .i64 ((s.length-F.2:Nat):Int))=w6:=⟨_,rfl⟩;rw[hw6]at HB7;have HB7:Hid _:=HB7;clear HB6 HS5;obtain⟨l0,l1⟩:=HB7.out.kf.c2;obtain⟨X0,X1,X2⟩:=(HB7.out).k0.c3;obtain⟨Y0,Y1⟩:=(HB7.out).k1.c2;have Z0:w6.frozen? ⟨K0,0,none⟩=false:=(HB7.out).k0.fz 0;have Z1:w6.frozen? ⟨K0,1,none⟩=false:=(HB7.out).k0.fz 1;have Z2:w6.frozen? ⟨K0,2,none⟩=false:=(HB7.out).k0.fz 2;have V0:w6.frozen? ⟨K1,0,none⟩=false:=(HB7.out).k1.fz 0;have V1:w6.frozen? ⟨K1,1,none⟩=false:=(HB7.out).k1.fz 1;have hne3:wr.heap.size≠K0:=by have:=HB7.out.ks.h1;have:=HB7.out.ks.h2;have:=HB7.out.hf;omega
      have hne4:K0≠wr.heap.size:=by omega
      have hne5:wr.heap.size≠K1:=by have:=HB7.out.ks.h2;have:=HB7.out.hf;omega
      have hne6:K1≠wr.heap.size:=by omega
      go_wp2;go_region
      all_goals
       go_wp2;have hO:=(HB7.out).out (.string ⟨#[]⟩) (.int .i64 0) (.int .i64 0) (.int .i64 (F.1:Int)) (.int .i64 ((s.length-F.2:Nat):Int));change bodyPost _ _ _ _ _ (fill w6 K0 K1 (.string ⟨#[]⟩) (.int .i64 0) (.int .i64 0) (.int .i64 (F.1:Int)) (.int .i64 ((s.length-F.2:Nat):Int))).drew;generalize fill w6 K0 K1 (.string ⟨#[]⟩) (.int .i64 0) (.int .i64 0) (.int .i64 (F.1:Int)) (.int .i64 ((s.length-F.2:Nat):Int))=WF at hO |-;obtain⟨o1,o2,o3,o4⟩:=hO;have j0:WF.drew.cell? ⟨K0,0,none⟩=_:=o3.cell 0;have j1:WF.drew.cell? ⟨K0,1,none⟩=_:=o3.cell 1;have j2:WF.drew.cell? ⟨K0,2,none⟩=_:=o3.cell 2;have j3:WF.drew.cell? ⟨K1,0,none⟩=_:=o4.cell 0;have j4:WF.drew.cell? ⟨K1,1,none⟩=_:=o4.cell 1;refine bodyPost_ret (v:=.tuple #[.agg #[.string ⟨#[]⟩,.int .i64 0,.int .i64 0],.agg #[.int .i64 (F.1:Int),.int .i64 ((s.length-F.2:Nat):Int)]]) (by simp[results,Tryz.results137,go_sem,j0,j1,j2,j3,j4]) rfl ?_;rw[HV.out];exact⟨rfl,o2.drew⟩
     ·have HV:Hid (R=lprp f n ⟨[],x1,(s.length-q0),true⟩ (s.drop q2)):=by
       have:=HE1.out;rw[bnd_ok]at this;simp only at this;rw[if_pos (by rw[<-HEE.out])]at this;exact this
      clear HE1 HEE;go_wp2_with (go_at_call 167;refine HEW.out.mono ?_;rintro e w' ⟨rfl,n3,rfl⟩);go_roundw
      case rel =>
       have h5:=HS5.out.drew n3;have hn:n=(n-1)+1:=by have:=HN1.out (.inr (by first | rfl | trivial));omega
       refine⟨⟨[],x1,(s.length-q0),true⟩,q2,q0,n-1,hq2,by omega,⟨h5.rd,h5.k0,h5.k1,h5.k2,h5.fr⟩,fun _=>by show q0=s.length-(s.length-q0);omega,⟨by show (0:Int)<=x1;omega,hx1.2⟩,?_,?_,by rw[<-hn];exact HV.out⟩
       ·intro _ e;exact absurd (show x1=0 from e) (by omega)
       ·rintro(e | e)
        ·have:=HN2.out (by first | rfl | trivial) (by first | rfl | trivial);omega
        ·exact absurd (show x1=0 from e) (by omega)
      case measure =>
       rw[HPL.out,(HS5.out.drew n3).rd.plc];omega
   ·have hq1:nx s q+2<=s.length:=by
     have h1:=gaps_nx s hq
     have h2:2<=(gaps (s.drop q)).length:=by
      have:=(hd_ne (l:=gaps (s.drop q)) (by rw[cB.2.1];decide)).2;have:=(hd_ne (l:=(gaps (s.drop q)).drop 1) (by rw[cB.2.2];decide)).2;omega
     omega
    have hdr:s.drop (nx s q+2)=(gaps (s.drop q)).drop 2:=by rw[<-List.drop_drop,drop_nx s hq]
    have HE1:Hid (R=bnd (tag (s.drop (nx s q+2))) fun x=>if ends f x.2=true then lprp f n ⟨a,x.1,s.length-nx s q,true⟩ x.2 else .error (3,x.2.length)):=by
     have:=HE.out;unfold lprp at this;rw[if_neg cA,if_pos cB]at this;rw[hdr,<-gaps_nx s hq];exact this
    have HYT:Hid (∀ k,Calls Tryz.prog 135 #[.pointer (some ⟨b,0,none⟩),.string ⟨#[33,33]⟩] (W1.drewN k) fun e w'=>e=.returned (.bool true)/\Hid (Sta w w' b s (nx s q+2) dp K0 K1 K2 wr.heap.size a t T zF)):=fun k =>
     (takes_yes [33,33] (HS1.out.rd.drew k) hq hs (by decide) (by rw[see_two s q (by decide)];simpa using cB.2)).mono (fun e w' h=>⟨h.1,(HS1.out.drew k).step h.2.1 h.2.2⟩)
    have ht:=cB.1;have hae:(a==[])=false:=by simpa using ha
    rw[hae]at hat1;clear cA cB HE hdr;subst ht;go_wp2_with fail;refine(HYT.out 0).mono ?_;rintro e w1 ⟨rfl,HS2⟩;have hqq:q<nx s q+1:=by have:=nx_ge s hq;omega
    have c1:=HS2.out.rd.c1;have zK2:w1.frozen? ⟨K2,2,none⟩=false:=HS2.out.k2.fz 2;have gK2:w1.cell? ⟨K2,2,none⟩=some (.int .i64 (T:Int)):=HS2.out.k2.cell 2;have HS3:Hid (Sta w (w1.setCell ⟨K2,2,none⟩ (.int .i64 (nx s q:Int))) b s (nx s q+2) dp K0 K1 K2 wr.heap.size a 0 (nx s q) zF):=HS2.out.setK2 2 _ rfl;have hc1:(((nx s q+2:Nat):Int)-2)=(nx s q:Int):=by omega
    rw[show ((nx s q+2:Nat):Int)=(nx s q:Int)+2 from by omega]at c1;clear HS2;obtain⟨w2,hw2⟩:∃ w2,w1.setCell ⟨K2,2,none⟩ (.int .i64 (nx s q:Int))=w2:=⟨_,rfl⟩;rw[hw2]at HS3;generalize nx s q=q0 at *;have HNM:Hid (Calls Tryz.prog 166 #[.pointer (some ⟨b,0,none⟩)] w2 fun e w'=>TagRes b s dp w2 (tag (s.drop (q0+2))) e w'):=tag_any HS3.out.rd hq1 hs;have HBD:Hid (∀ e,tag (s.drop (q0+2))=.error e->e.1≠0):=tag_bad _;generalize hres:tag (s.drop (q0+2))=res at HNM HE1 HBD
    cases res with
    | error F =>
     clear hres;have HV:Hid (R=.error F):=HE1.out;have hF0:((F.1:Int)==0)=false:=by have:=HBD.out F rfl;rw[beq_eq_false_iff_ne];omega
     have hF1:((F.1:Int)!=0)=true:=by simpa using hF0
     clear HE1 HBD;go_wp2_with fail;refine HNM.out.mono ?_;rintro e w3 ⟨rfl,hfr3⟩;unfold fv;have HB3:Hid (Stb w w3 b K0 K1 K2 wr.heap.size (prC a 0 q0) zF):=HS3.out.err hfr3;clear hfr3 HS3 HNM HYT;obtain⟨w4,hw4⟩:∃ w4,((w3.setCell ⟨K2,1,none⟩ (.int .i64 0)).setCell ⟨wr.heap.size,0,none⟩ (.int .i64 (F.1:Int))).setCell ⟨wr.heap.size,1,none⟩ (.int .i64 ((s.length-F.2:Nat):Int))=w4:=⟨_,rfl⟩;have HB4:=(HB3.out.setK2 1 (.int .i64 0)).setKF (.int .i64 (F.1:Int)) (.int .i64 ((s.length-F.2:Nat):Int)) rfl;rw[hw4]at HB4;have HB4:Hid _:=HB4;have e0:w3.cell? ⟨K2,1,none⟩=some (.int .i64 0):=HB3.out.k2.cell 1;have e1:w3.frozen? ⟨K2,1,none⟩=false:=HB3.out.k2.fz 1;obtain⟨e2,e3⟩:=HB3.out.kf.c2;have e4:w3.frozen? ⟨wr.heap.size,0,none⟩=false:=HB3.out.kf.fz 0;have e5:w3.frozen? ⟨wr.heap.size,1,none⟩=false:=HB3.out.kf.fz 1;have hne1:wr.heap.size≠K2:=by have:=HB3.out.hf;omega
     have hne2:K2≠wr.heap.size:=by omega
     have hne3:wr.heap.size≠K0:=by have:=HB3.out.ks.h1;have:=HB3.out.ks.h2;have:=HB3.out.hf;omega
     have hne4:K0≠wr.heap.size:=by omega
     have hne5:wr.heap.size≠K1:=by have:=HB3.out.ks.h2;have:=HB3.out.hf;omega
     have hne6:K1≠wr.heap.size:=by omega
     clear HB3;obtain⟨i0,i1⟩:=HB4.out.kf.c2;obtain⟨X0,X1,X2⟩:=(HB4.out).k0.c3;obtain⟨Y0,Y1⟩:=(HB4.out).k1.c2;have Z0:w4.frozen? ⟨K0,0,none⟩=false:=(HB4.out).k0.fz 0;have Z1:w4.frozen? ⟨K0,1,none⟩=false:=(HB4.out).k0.fz 1;have Z2:w4.frozen? ⟨K0,2,none⟩=false:=(HB4.out).k0.fz 2;have V0:w4.frozen? ⟨K1,0,none⟩=false:=(HB4.out).k1.fz 0;have V1:w4.frozen? ⟨K1,1,none⟩=false:=(HB4.out).k1.fz 1;go_wp2;go_region
     all_goals
      go_wp2;have hO:=(HB4.out).out (.string ⟨#[]⟩) (.int .i64 0) (.int .i64 0) (.int .i64 (F.1:Int)) (.int .i64 ((s.length-F.2:Nat):Int));change bodyPost _ _ _ _ _ (fill w4 K0 K1 (.string ⟨#[]⟩) (.int .i64 0) (.int .i64 0) (.int .i64 (F.1:Int)) (.int .i64 ((s.length-F.2:Nat):Int))).drew;generalize fill w4 K0 K1 (.string ⟨#[]⟩) (.int .i64 0) (.int .i64 0) (.int .i64 (F.1:Int)) (.int .i64 ((s.length-F.2:Nat):Int))=WF at hO |-;obtain⟨o1,o2,o3,o4⟩:=hO;have j0:WF.drew.cell? ⟨K0,0,none⟩=_:=o3.cell 0;have j1:WF.drew.cell? ⟨K0,1,none⟩=_:=o3.cell 1;have j2:WF.drew.cell? ⟨K0,2,none⟩=_:=o3.cell 2;have j3:WF.drew.cell? ⟨K1,0,none⟩=_:=o4.cell 0;have j4:WF.drew.cell? ⟨K1,1,none⟩=_:=o4.cell 1;refine bodyPost_ret (v:=.tuple #[.agg #[.string ⟨#[]⟩,.int .i64 0,.int .i64 0],.agg #[.int .i64 (F.1:Int),.int .i64 ((s.length-F.2:Nat):Int)]]) (by simp[results,Tryz.results137,go_sem,j0,j1,j2,j3,j4]) rfl ?_;rw[HV.out];exact⟨rfl,o2.drew⟩
    | ok x =>
     obtain⟨x1,x2⟩:=x;have HOK:=HBD;clear HBD HOK;go_wp2_with fail;refine HNM.out.mono ?_;rintro e w3 ⟨rfl,⟨q2,hq2,hx2,hr3⟩,hfr3⟩;simp only at hx2;subst hx2;have HS4:Hid (Sta w w3 b s q2 dp K0 K1 K2 wr.heap.size a 0 q0 zF):=HS3.out.step hr3 hfr3;clear hr3 hfr3 HS3 HNM HYT;unfold f0;simp only[];have hxn:=tag_inv hres;simp only[List.length_drop]at hxn;have hx1:1<=x1/\x1<=6:=⟨hxn.1,hxn.2.1⟩;have hq12:q0+2<=q2:=by omega
     clear hxn;clear hres;obtain⟨w4,hw4⟩:∃ w4,((w3.setCell ⟨K2,1,none⟩ (.int .i64 x1)).setCell ⟨wr.heap.size,0,none⟩ (.int .i64 0)).setCell ⟨wr.heap.size,1,none⟩ (.int .i64 0)=w4:=⟨_,rfl⟩;have hS5:Sta w (((w3.setCell ⟨K2,1,none⟩ (.int .i64 x1)).setCell ⟨wr.heap.size,0,none⟩ (.int .i64 0)).setCell ⟨wr.heap.size,1,none⟩ (.int .i64 0)) b s q2 dp K0 K1 K2 wr.heap.size a x1 q0 #[.int .i64 0,.int .i64 0]:=(HS4.out.setK2 1 (.int .i64 x1) rfl).setKF (.int .i64 0) (.int .i64 0) rfl;rw[hw4]at hS5;have HS5:Hid (Sta w w4 b s q2 dp K0 K1 K2 wr.heap.size a x1 q0 #[.int .i64 0,.int .i64 0]):=hS5;clear hS5;have e0:w3.cell? ⟨K2,1,none⟩=some (.int .i64 0):=HS4.out.k2.cell 1;have e1:w3.frozen? ⟨K2,1,none⟩=false:=HS4.out.k2.fz 1;obtain⟨e2,e3⟩:=HS4.out.kf.c2;have e4:w3.frozen? ⟨wr.heap.size,0,none⟩=false:=HS4.out.kf.fz 0;have e5:w3.frozen? ⟨wr.heap.size,1,none⟩=false:=HS4.out.kf.fz 1;have hne1:wr.heap.size≠K2:=by have:=HS4.out.hf;omega
     have hne2:K2≠wr.heap.size:=by omega
     clear HS4;obtain⟨i0,i1⟩:=HS5.out.kf.c2;have i2:w4.frozen? ⟨wr.heap.size,0,none⟩=false:=HS5.out.kf.fz 0;have i3:w4.frozen? ⟨wr.heap.size,1,none⟩=false:=HS5.out.kf.fz 1;have i4:=HS5.out.rd.c1;obtain⟨E,HEE⟩:∃ E,Hid (E=ends f (s.drop q2)):=⟨_,rfl⟩;have HEW:Hid (Calls Tryz.prog 167 #[.pointer (some ⟨b,0,none⟩),.bool f] w4 fun e w'=>e=.returned (.bool E)/\∃ n,w'=w4.drewN n):=by rw[HEE.out];exact endsWord_any f HS5.out.rd hq2 hs
     cases E
     ·have HV:Hid (R=.error (stands (s.drop q2))):=by
       have:=HE1.out;rw[bnd_ok]at this;simp only at this;rw[if_neg (by rw[<-HEE.out];decide)]at this;rw[this]
       have hne:s.drop q2≠[]:=by
        intro e;have h2:=HEE.out;rw[e]at h2;exact absurd h2 (by unfold ends;simp)
       show Except.error _=Except.error _;unfold stands;rw[if_neg hne]
      have HWA:Hid (∀ k,Calls Tryz.prog 165 #[.pointer (some ⟨b,0,none⟩),.int .i64 (q2:Int)] (w4.drewN k) fun e w'=>e=.returned (fv s.length (stands (s.drop q2)))/\Below (w4.drewN k).heap.size (w4.drewN k) w'):=fun k=>wrongAt_any q2 (HS5.out.rd.drew k) hq2 hs
      have hF:=stands_ne (s.drop q2);generalize stands (s.drop q2)=F at *;have hF1:((F.1:Int)!=0)=true:=by simpa using hF
      clear HE1 HEE;go_wp2_with (go_at_call 167;refine HEW.out.mono ?_;rintro e w' ⟨rfl,n3,rfl⟩);refine(HWA.out _).mono ?_;rintro e w5 ⟨rfl,hb5⟩;unfold fv;have HB6:=((HS5.out.drew n3).later hb5).err Fr.refl;obtain⟨k0,k1⟩:=HB6.kf.c2;have k2:w5.frozen? ⟨wr.heap.size,0,none⟩=false:=HB6.kf.fz 0;have k3:w5.frozen? ⟨wr.heap.size,1,none⟩=false:=HB6.kf.fz 1;have HB7:=HB6.setKF (.int .i64 (F.1:Int)) (.int .i64 ((s.length-F.2:Nat):Int)) rfl;obtain⟨w6,hw6⟩:∃ w6,(w5.setCell ⟨wr.heap.size,0,none⟩ (.int .i64 (F.1:Int))).setCell ⟨wr.heap.size,1,none⟩ (.int .i64 ((s.length-F.2:Nat):Int))=w6:=⟨_,rfl⟩;rw[hw6]at HB7;have HB7:Hid _:=HB7;clear HB6 HS5;obtain⟨l0,l1⟩:=HB7.out.kf.c2;obtain⟨X0,X1,X2⟩:=(HB7.out).k0.c3;obtain⟨Y0,Y1⟩:=(HB7.out).k1.c2;have Z0:w6.frozen? ⟨K0,0,none⟩=false:=(HB7.out).k0.fz 0;have Z1:w6.frozen? ⟨K0,1,none⟩=false:=(HB7.out).k0.fz 1;have Z2:w6.frozen? ⟨K0,2,none⟩=false:=(HB7.out).k0.fz 2;have V0:w6.frozen? ⟨K1,0,none⟩=false:=(HB7.out).k1.fz 0;have V1:w6.frozen? ⟨K1,1,none⟩=false:=(HB7.out).k1.fz 1;have hne3:wr.heap.size≠K0:=by have:=HB7.out.ks.h1;have:=HB7.out.ks.h2;have:=HB7.out.hf;omega
      have hne4:K0≠wr.heap.size:=by omega
      have hne5:wr.heap.size≠K1:=by have:=HB7.out.ks.h2;have:=HB7.out.hf;omega
      have hne6:K1≠wr.heap.size:=by omega
      go_wp2;go_region
      all_goals
       go_wp2;have hO:=(HB7.out).out (.string ⟨#[]⟩) (.int .i64 0) (.int .i64 0) (.int .i64 (F.1:Int)) (.int .i64 ((s.length-F.2:Nat):Int));change bodyPost _ _ _ _ _ (fill w6 K0 K1 (.string ⟨#[]⟩) (.int .i64 0) (.int .i64 0) (.int .i64 (F.1:Int)) (.int .i64 ((s.length-F.2:Nat):Int))).drew;generalize fill w6 K0 K1 (.string ⟨#[]⟩) (.int .i64 0) (.int .i64 0) (.int .i64 (F.1:Int)) (.int .i64 ((s.length-F.2:Nat):Int))=WF at hO |-;obtain⟨o1,o2,o3,o4⟩:=hO;have j0:WF.drew.cell? ⟨K0,0,none⟩=_:=o3.cell 0;have j1:WF.drew.cell? ⟨K0,1,none⟩=_:=o3.cell 1;have j2:WF.drew.cell? ⟨K0,2,none⟩=_:=o3.cell 2;have j3:WF.drew.cell? ⟨K1,0,none⟩=_:=o4.cell 0;have j4:WF.drew.cell? ⟨K1,1,none⟩=_:=o4.cell 1;refine bodyPost_ret (v:=.tuple #[.agg #[.string ⟨#[]⟩,.int .i64 0,.int .i64 0],.agg #[.int .i64 (F.1:Int),.int .i64 ((s.length-F.2:Nat):Int)]]) (by simp[results,Tryz.results137,go_sem,j0,j1,j2,j3,j4]) rfl ?_;rw[HV.out];exact⟨rfl,o2.drew⟩
     ·have HV:Hid (R=lprp f n ⟨a,x1,(s.length-q0),true⟩ (s.drop q2)):=by
       have:=HE1.out;rw[bnd_ok]at this;simp only at this;rw[if_pos (by rw[<-HEE.out])]at this;exact this
      clear HE1 HEE;go_wp2_with (go_at_call 167;refine HEW.out.mono ?_;rintro e w' ⟨rfl,n3,rfl⟩);go_roundw
      case rel =>
       have h5:=HS5.out.drew n3;have hn:n=(n-1)+1:=by have:=HN1.out (.inr (by first | rfl | trivial));omega
       refine⟨⟨a,x1,(s.length-q0),true⟩,q2,q0,n-1,hq2,by omega,⟨h5.rd,h5.k0,h5.k1,h5.k2,h5.fr⟩,fun _=>by show q0=s.length-(s.length-q0);omega,⟨by show (0:Int)<=x1;omega,hx1.2⟩,?_,?_,by rw[<-hn];exact HV.out⟩
       ·intro _ e;exact absurd (show x1=0 from e) (by omega)
       ·rintro(e | e)
        ·exact absurd e (by simpa using hae)
        ·exact absurd (show x1=0 from e) (by omega)
      case measure =>
       rw[HPL.out,(HS5.out.drew n3).rd.plc];omega
  ·have HV:Hid (R=.ok (⟨a,t,at_,sm⟩,s.drop q)):=by
    have:=HE.out;unfold lprp at this;rw[if_neg cA,if_neg cB]at this;exact this
   clear HE
   have HTK:Hid (∀ (x:ByteArray) k,(x=⟨#[38]⟩/\a=[])\/(x=⟨#[33,33]⟩/\t=0)->Calls Tryz.prog 135 #[.pointer (some ⟨b,0,none⟩),.string x] (W1.drewN k) fun e w'=>e=.returned (.bool false)/\∃ n,w'=(W1.drewN k).drewN n):=fun x k hx=>by
    rcases hx with ⟨rfl,ha⟩ | ⟨rfl,ht⟩
    ·exact takes_no [38] (HS1.out.rd.drew k) hq hs (by decide) (by rw[see_hd s q (by decide)];simpa using fun e=>cA ⟨ha,e⟩)
    ·exact takes_no [33,33] (HS1.out.rd.drew k) hq hs (by decide) (by rw[see_two s q (by decide)];simpa using fun e1 e2=>cB ⟨ht,e1,e2⟩)
   have HX:Hid (∀ k,Sta w (W1.drewN k) b s q dp K0 K1 K2 wr.heap.size a t T zF):=fun k=>HS1.out.drew k
   clear HS1 cA cB;have X0:W1.cell? ⟨K0,0,none⟩=some (.string ⟨#[]⟩):=(HX.out 0).k0.cell 0;have X1:W1.cell? ⟨K0,1,none⟩=some (.int .i64 0):=(HX.out 0).k0.cell 1;have X2:W1.cell? ⟨K0,2,none⟩=some (.int .i64 0):=(HX.out 0).k0.cell 2;have Y0:W1.cell? ⟨K1,0,none⟩=some (.int .i64 0):=(HX.out 0).k1.cell 0;have Y1:W1.cell? ⟨K1,1,none⟩=some (.int .i64 0):=(HX.out 0).k1.cell 1;have Z0:W1.frozen? ⟨K0,0,none⟩=false:=(HX.out 0).k0.fz 0;have Z1:W1.frozen? ⟨K0,1,none⟩=false:=(HX.out 0).k0.fz 1;have Z2:W1.frozen? ⟨K0,2,none⟩=false:=(HX.out 0).k0.fz 2;have V0:W1.frozen? ⟨K1,0,none⟩=false:=(HX.out 0).k1.fz 0;have V1:W1.frozen? ⟨K1,1,none⟩=false:=(HX.out 0).k1.fz 1;have g2:W1.cell? ⟨K2,2,none⟩=some (.int .i64 (T:Int)):=(HX.out 0).k2.cell 2
   have HFI:Hid (∀ w',Rd w' b s q dp->Fr b w w'->PrpRes b s dp w R (.returned (.tuple #[.agg #[.string (mk a),.int .i64 t,.int .i64 (T:Int)],.agg #[.int .i64 0,.int .i64 0]])) w'):=fun w' h1 h2=>by
    rw[HV.out];exact⟨⟨T,hT,HAT.out,rfl⟩,⟨q,hq,rfl,h1⟩,h2⟩
   clear HV HAT HN1 HN2 HPL;have HTA:Hid (a=[]->∀ k,Calls Tryz.prog 135 #[.pointer (some ⟨b,0,none⟩),.string ⟨#[38]⟩] (W1.drewN k) fun e w'=>e=.returned (.bool false)/\∃ n,w'=(W1.drewN k).drewN n):=fun ha k=>HTK.out _ k (.inl ⟨rfl,ha⟩)
   have HTB:Hid (t=0->∀ k,Calls Tryz.prog 135 #[.pointer (some ⟨b,0,none⟩),.string ⟨#[33,33]⟩] (W1.drewN k) fun e w'=>e=.returned (.bool false)/\∃ n,w'=(W1.drewN k).drewN n):=fun ht k=>HTK.out _ k (.inr ⟨rfl,ht⟩)
   clear HTK;by_cases ha:a=[]
   ·by_cases ht:t=0
    ·have HA:Hid (∀ k,Calls Tryz.prog 135 #[.pointer (some ⟨b,0,none⟩),.string ⟨#[38]⟩] (W1.drewN k) fun e w'=>e=.returned (.bool false)/\∃ n,w'=(W1.drewN k).drewN n):=HTA.out ha;have HB:Hid (∀ k,Calls Tryz.prog 135 #[.pointer (some ⟨b,0,none⟩),.string ⟨#[33,33]⟩] (W1.drewN k) fun e w'=>e=.returned (.bool false)/\∃ n,w'=(W1.drewN k).drewN n):=HTB.out ht;clear HTA HTB;subst ha;subst ht;go_wp2_with fail;refine(HA.out 0).mono ?_;rintro e w' ⟨rfl,n1,rfl⟩;go_wp2_with fail;refine(HB.out _).mono ?_;rintro e w' ⟨rfl,n2,rfl⟩;go_wp2;have hO:=(HX.out (n1+n2)).out (.string (mk [])) (.int .i64 0) (.int .i64 (T:Int)) (.int .i64 0) (.int .i64 0);change bodyPost _ _ _ _ _ (fill (W1.drewN (n1+n2)) K0 K1 (.string (mk [])) (.int .i64 0) (.int .i64 (T:Int)) (.int .i64 0) (.int .i64 0));generalize fill (W1.drewN (n1+n2)) K0 K1 (.string (mk [])) (.int .i64 0) (.int .i64 (T:Int)) (.int .i64 0) (.int .i64 0)=WF at hO |-;obtain⟨o1,o2,o3,o4⟩:=hO;have j0:=o3.cell 0;have j1:=o3.cell 1;have j2:=o3.cell 2;have j3:=o4.cell 0;have j4:=o4.cell 1;refine bodyPost_ret (v:=.tuple #[.agg #[.string (mk []),.int .i64 0,.int .i64 (T:Int)],.agg #[.int .i64 0,.int .i64 0]]) (by simp[results,Tryz.results137,go_sem,j0,j1,j2,j3,j4]) rfl ?_;exact HFI.out _ o1 o2
    ·have HA:Hid (∀ k,Calls Tryz.prog 135 #[.pointer (some ⟨b,0,none⟩),.string ⟨#[38]⟩] (W1.drewN k) fun e w'=>e=.returned (.bool false)/\∃ n,w'=(W1.drewN k).drewN n):=HTA.out ha;clear HTA HTB;subst ha;have hte:(t==0)=false:=by simpa using ht
     go_wp2_with fail;refine(HA.out 0).mono ?_;rintro e w' ⟨rfl,n1,rfl⟩;go_wp2;have hO:=(HX.out n1).out (.string (mk [])) (.int .i64 t) (.int .i64 (T:Int)) (.int .i64 0) (.int .i64 0);change bodyPost _ _ _ _ _ (fill (W1.drewN n1) K0 K1 (.string (mk [])) (.int .i64 t) (.int .i64 (T:Int)) (.int .i64 0) (.int .i64 0));generalize fill (W1.drewN n1) K0 K1 (.string (mk [])) (.int .i64 t) (.int .i64 (T:Int)) (.int .i64 0) (.int .i64 0)=WF at hO |-;obtain⟨o1,o2,o3,o4⟩:=hO;have j0:=o3.cell 0;have j1:=o3.cell 1;have j2:=o3.cell 2;have j3:=o4.cell 0;have j4:=o4.cell 1;refine bodyPost_ret (v:=.tuple #[.agg #[.string (mk []),.int .i64 t,.int .i64 (T:Int)],.agg #[.int .i64 0,.int .i64 0]]) (by simp[results,Tryz.results137,go_sem,j0,j1,j2,j3,j4]) rfl ?_;exact HFI.out _ o1 o2
   ·by_cases ht:t=0
    ·have HB:Hid (∀ k,Calls Tryz.prog 135 #[.pointer (some ⟨b,0,none⟩),.string ⟨#[33,33]⟩] (W1.drewN k) fun e w'=>e=.returned (.bool false)/\∃ n,w'=(W1.drewN k).drewN n):=HTB.out ht;clear HTA HTB;have hae:(a==[])=false:=by simpa using ha
     rw[hae]at hat1;subst ht;go_wp2_with fail;refine(HB.out 0).mono ?_;rintro e w' ⟨rfl,n2,rfl⟩;go_wp2;have hO:=(HX.out n2).out (.string (mk a)) (.int .i64 0) (.int .i64 (T:Int)) (.int .i64 0) (.int .i64 0);change bodyPost _ _ _ _ _ (fill (W1.drewN n2) K0 K1 (.string (mk a)) (.int .i64 0) (.int .i64 (T:Int)) (.int .i64 0) (.int .i64 0));generalize fill (W1.drewN n2) K0 K1 (.string (mk a)) (.int .i64 0) (.int .i64 (T:Int)) (.int .i64 0) (.int .i64 0)=WF at hO |-;obtain⟨o1,o2,o3,o4⟩:=hO;have j0:=o3.cell 0;have j1:=o3.cell 1;have j2:=o3.cell 2;have j3:=o4.cell 0;have j4:=o4.cell 1;refine bodyPost_ret (v:=.tuple #[.agg #[.string (mk a),.int .i64 0,.int .i64 (T:Int)],.agg #[.int .i64 0,.int .i64 0]]) (by simp[results,Tryz.results137,go_sem,j0,j1,j2,j3,j4]) rfl ?_;exact HFI.out _ o1 o2
    ·clear HTA HTB;have hae:(a==[])=false:=by simpa using ha
     rw[hae]at hat1;have hte:(t==0)=false:=by simpa using ht
     go_upto_region 3 with fail
     clear hW1;have HX1:Hid (Sta w W1 b s q dp K0 K1 K2 wr.heap.size a t T zF):=HX.out 0;clear HX;generalize wr.heap.size=KF at *;go_wp2;have hO:=(HX1.out).out (.string (mk a)) (.int .i64 t) (.int .i64 (T:Int)) (.int .i64 0) (.int .i64 0);change bodyPost _ _ _ _ _ (fill W1 K0 K1 (.string (mk a)) (.int .i64 t) (.int .i64 (T:Int)) (.int .i64 0) (.int .i64 0));generalize fill W1 K0 K1 (.string (mk a)) (.int .i64 t) (.int .i64 (T:Int)) (.int .i64 0) (.int .i64 0)=WF at hO |-;obtain⟨o1,o2,o3,o4⟩:=hO;have j0:=o3.cell 0;have j1:=o3.cell 1;have j2:=o3.cell 2;have j3:=o4.cell 0;have j4:=o4.cell 1;refine bodyPost_ret (v:=.tuple #[.agg #[.string (mk a),.int .i64 t,.int .i64 (T:Int)],.agg #[.int .i64 0,.int .i64 0]]) (by simp[results,Tryz.results137,go_sem,j0,j1,j2,j3,j4]) rfl ?_;exact HFI.out _ o1 o2
end Flw
namespace Pln
open Go.Shelf
def lays119_ren:Go.Shelf.Ren:=⟨fun | 119=>173 | n=>n,fun | 21=>21 | 4=>4 | n=>n,fun | n=>n⟩
theorem lays119:Go.Proofs.Lays.n119 Tryz.prog lays119_ren:= {
 mixed:=by kernel_rfl
 f119:=Tryz.func173.trans (congrArg some (by kernel_rfl))
 t4:=Tryz.underlying4
 a4:=Tryz.isAgg4
 z4:=Tryz.sizeOf4
 v4:=Tryz.zeroValue4
 t21:=Tryz.underlying21
 a21:=Tryz.isAgg21
 z21:=Tryz.sizeOf21
 v21:=Tryz.zeroValue21 }
def laysM171_ren:Go.Shelf.Ren:=⟨fun | 171=>116 | 243=>148 | 246=>177 | 283=>194 | 284=>195 | 285=>196 | 286=>197 | 129=>203 | 317=>202 | 318=>204 | 319=>205 | 320=>206 | 337=>208 | 338=>209 | n=>n,fun | 3=>3 | 9=>9 | 2=>2 | 4=>4 | 171=>237 | 0=>0 | 53=>216 | 37=>51 | 5=>5 | 173=>240 | 212=>247 | 51=>200 | 20=>20 | 213=>248 | 46=>166 | 232=>251 | 233=>252 | n=>n,fun | 17=>7 | 18=>8 | 19=>9 | n=>n⟩
theorem laysM171:Go.Proofs.LaysM.n171 Tryz.prog laysM171_ren:= {
 mixed:=by kernel_rfl
 f129:=Tryz.func203.trans (congrArg some (by kernel_rfl))
 f171:=Tryz.func116.trans (congrArg some (by kernel_rfl))
 f243:=Tryz.func148.trans (congrArg some (by kernel_rfl))
 f246:=Tryz.func177.trans (congrArg some (by kernel_rfl))
 f283:=Tryz.func194.trans (congrArg some (by kernel_rfl))
 f284:=Tryz.func195.trans (congrArg some (by kernel_rfl))
 f285:=Tryz.func196.trans (congrArg some (by kernel_rfl))
 f286:=Tryz.func197.trans (congrArg some (by kernel_rfl))
 f317:=Tryz.func202.trans (congrArg some (by kernel_rfl))
 f318:=Tryz.func204.trans (congrArg some (by kernel_rfl))
 f319:=Tryz.func205.trans (congrArg some (by kernel_rfl))
 f320:=Tryz.func206.trans (congrArg some (by kernel_rfl))
 f337:=Tryz.func208.trans (congrArg some (by kernel_rfl))
 f338:=Tryz.func209.trans (congrArg some (by kernel_rfl))
 t0:=Tryz.underlying0
 a0:=Tryz.isAgg0
 z0:=Tryz.sizeOf0
 v0:=Tryz.zeroValue0
 t2:=Tryz.underlying2
 a2:=Tryz.isAgg2
 z2:=Tryz.sizeOf2
 v2:=Tryz.zeroValue2
 t3:=Tryz.underlying3
 a3:=Tryz.isAgg3
 z3:=Tryz.sizeOf3
 v3:=Tryz.zeroValue3
 t4:=Tryz.underlying4
 a4:=Tryz.isAgg4
 z4:=Tryz.sizeOf4
 v4:=Tryz.zeroValue4
 t5:=Tryz.underlying5
 a5:=Tryz.isAgg5
 z5:=Tryz.sizeOf5
 v5:=Tryz.zeroValue5
 t9:=Tryz.underlying9
 a9:=Tryz.isAgg9
 z9:=Tryz.sizeOf9
 v9:=Tryz.zeroValue9
 t20:=Tryz.underlying20
 a20:=Tryz.isAgg20
 z20:=Tryz.sizeOf20
 v20:=Tryz.zeroValue20
 t37:=Tryz.underlying51
 a37:=Tryz.isAgg51
 z37:=Tryz.sizeOf51
 v37:=Tryz.zeroValue51
 t46:=Tryz.underlying166
 a46:=Tryz.isAgg166
 z46:=Tryz.sizeOf166
 v46:=Tryz.zeroValue166
 t51:=Tryz.underlying200
 a51:=Tryz.isAgg200
 z51:=Tryz.sizeOf200
 v51:=Tryz.zeroValue200
 t53:=Tryz.underlying216
 a53:=Tryz.isAgg216
 z53:=Tryz.sizeOf216
 v53:=Tryz.zeroValue216
 t171:=Tryz.underlying237
 a171:=Tryz.isAgg237
 z171:=Tryz.sizeOf237
 v171:=Tryz.zeroValue237
 t173:=Tryz.underlying240
 a173:=Tryz.isAgg240
 z173:=Tryz.sizeOf240
 v173:=Tryz.zeroValue240
 t212:=Tryz.underlying247
 a212:=Tryz.isAgg247
 z212:=Tryz.sizeOf247
 v212:=Tryz.zeroValue247
 t213:=Tryz.underlying248
 a213:=Tryz.isAgg248
 z213:=Tryz.sizeOf248
 t232:=Tryz.underlying251
 a232:=Tryz.isAgg251
 z232:=Tryz.sizeOf251
 v232:=Tryz.zeroValue251
 t233:=Tryz.underlying252
 a233:=Tryz.isAgg252
 z233:=Tryz.sizeOf252
 v233:=Tryz.zeroValue252
 g17:=by kernel_rfl
 g18:=by kernel_rfl
 g19:=by kernel_rfl
 i0:=by kernel_rfl
 i2:=by kernel_rfl
 i3:=by kernel_rfl
 i4:=by kernel_rfl
 i5:=by kernel_rfl
 i9:=by kernel_rfl
 i20:=by kernel_rfl
 i37:=by kernel_rfl
 i46:=by kernel_rfl
 i51:=by kernel_rfl
 i53:=by kernel_rfl
 i171:=by kernel_rfl
 i173:=by kernel_rfl
 i212:=by kernel_rfl
 i232:=by kernel_rfl
 i233:=by kernel_rfl
 m17:=by kernel_rfl
 m18:=by kernel_rfl
 m19:=by kernel_rfl }
def laysC172_ren:Go.Shelf.Ren:=⟨fun | 172=>87 | 244=>114 | 245=>115 | 247=>143 | 279=>144 | 280=>145 | 281=>146 | 282=>147 | 287=>174 | 316=>175 | 171=>116 | 205=>176 | 321=>192 | 322=>193 | 243=>148 | 246=>177 | 283=>194 | 284=>195 | 285=>196 | 286=>197 | 129=>203 | 317=>202 | 318=>204 | 319=>205 | 320=>206 | 337=>208 | 338=>209 | n=>n,fun | 9=>9 | 3=>3 | 75=>70 | 76=>71 | 4=>4 | 5=>5 | 167=>192 | 37=>51 | 0=>0 | 85=>193 | 2=>2 | 168=>195 | 53=>216 | 175=>217 | 46=>166 | 210=>220 | 127=>74 | 145=>236 | 143=>234 | 21=>21 | 171=>237 | 173=>240 | 212=>247 | 51=>200 | 20=>20 | 213=>248 | 232=>251 | 233=>252 | 80=>55 | n=>n,fun | 15=>3 | 16=>4 | 17=>7 | 18=>8 | 19=>9 | n=>n⟩
theorem laysC172:Go.Proofs.LaysC.n172 Tryz.prog laysC172_ren:= {
 mixed:=by kernel_rfl
 f129:=Tryz.func203.trans (congrArg some (by kernel_rfl))
 f171:=Tryz.func116.trans (congrArg some (by kernel_rfl))
 f172:=Tryz.func87.trans (congrArg some (by kernel_rfl))
 f205:=Tryz.func176.trans (congrArg some (by kernel_rfl))
 f243:=Tryz.func148.trans (congrArg some (by kernel_rfl))
 f244:=Tryz.func114.trans (congrArg some (by kernel_rfl))
 f245:=Tryz.func115.trans (congrArg some (by kernel_rfl))
 f246:=Tryz.func177.trans (congrArg some (by kernel_rfl))
 f247:=Tryz.func143.trans (congrArg some (by kernel_rfl))
 f279:=Tryz.func144.trans (congrArg some (by kernel_rfl))
 f280:=Tryz.func145.trans (congrArg some (by kernel_rfl))
 f281:=Tryz.func146.trans (congrArg some (by kernel_rfl))
 f282:=Tryz.func147.trans (congrArg some (by kernel_rfl))
 f283:=Tryz.func194.trans (congrArg some (by kernel_rfl))
 f284:=Tryz.func195.trans (congrArg some (by kernel_rfl))
 f285:=Tryz.func196.trans (congrArg some (by kernel_rfl))
 f286:=Tryz.func197.trans (congrArg some (by kernel_rfl))
 f287:=Tryz.func174.trans (congrArg some (by kernel_rfl))
 f316:=Tryz.func175.trans (congrArg some (by kernel_rfl))
 f317:=Tryz.func202.trans (congrArg some (by kernel_rfl))
 f318:=Tryz.func204.trans (congrArg some (by kernel_rfl))
 f319:=Tryz.func205.trans (congrArg some (by kernel_rfl))
 f320:=Tryz.func206.trans (congrArg some (by kernel_rfl))
 f321:=Tryz.func192.trans (congrArg some (by kernel_rfl))
 f322:=Tryz.func193.trans (congrArg some (by kernel_rfl))
 f337:=Tryz.func208.trans (congrArg some (by kernel_rfl))
 f338:=Tryz.func209.trans (congrArg some (by kernel_rfl))
 t0:=Tryz.underlying0
 a0:=Tryz.isAgg0
 z0:=Tryz.sizeOf0
 v0:=Tryz.zeroValue0
 t2:=Tryz.underlying2
 a2:=Tryz.isAgg2
 z2:=Tryz.sizeOf2
 v2:=Tryz.zeroValue2
 t3:=Tryz.underlying3
 a3:=Tryz.isAgg3
 z3:=Tryz.sizeOf3
 v3:=Tryz.zeroValue3
 t4:=Tryz.underlying4
 a4:=Tryz.isAgg4
 z4:=Tryz.sizeOf4
 v4:=Tryz.zeroValue4
 t5:=Tryz.underlying5
 a5:=Tryz.isAgg5
 z5:=Tryz.sizeOf5
 v5:=Tryz.zeroValue5
 t9:=Tryz.underlying9
 a9:=Tryz.isAgg9
 z9:=Tryz.sizeOf9
 v9:=Tryz.zeroValue9
 t20:=Tryz.underlying20
 a20:=Tryz.isAgg20
 z20:=Tryz.sizeOf20
 v20:=Tryz.zeroValue20
 t21:=Tryz.underlying21
 a21:=Tryz.isAgg21
 z21:=Tryz.sizeOf21
 v21:=Tryz.zeroValue21
 t37:=Tryz.underlying51
 a37:=Tryz.isAgg51
 z37:=Tryz.sizeOf51
 v37:=Tryz.zeroValue51
 t46:=Tryz.underlying166
 a46:=Tryz.isAgg166
 z46:=Tryz.sizeOf166
 v46:=Tryz.zeroValue166
 t51:=Tryz.underlying200
 a51:=Tryz.isAgg200
 z51:=Tryz.sizeOf200
 v51:=Tryz.zeroValue200
 t53:=Tryz.underlying216
 a53:=Tryz.isAgg216
 z53:=Tryz.sizeOf216
 v53:=Tryz.zeroValue216
 t75:=Tryz.underlying70
 a75:=Tryz.isAgg70
 z75:=Tryz.sizeOf70
 v75:=Tryz.zeroValue70
 t76:=Tryz.underlying71
 a76:=Tryz.isAgg71
 z76:=Tryz.sizeOf71
 v76:=Tryz.zeroValue71
 t85:=Tryz.underlying193
 a85:=Tryz.isAgg193
 z85:=Tryz.sizeOf193
 v85:=Tryz.zeroValue193
 t127:=Tryz.underlying74
 a127:=Tryz.isAgg74
 z127:=Tryz.sizeOf74
 v127:=Tryz.zeroValue74
 t143:=Tryz.underlying234
 a143:=Tryz.isAgg234
 z143:=Tryz.sizeOf234
 v143:=Tryz.zeroValue234
 t145:=Tryz.underlying236
 a145:=Tryz.isAgg236
 z145:=Tryz.sizeOf236
 v145:=Tryz.zeroValue236
 t167:=Tryz.underlying192
 a167:=Tryz.isAgg192
 z167:=Tryz.sizeOf192
 v167:=Tryz.zeroValue192
 t168:=Tryz.underlying195
 a168:=Tryz.isAgg195
 z168:=Tryz.sizeOf195
 v168:=Tryz.zeroValue195
 t171:=Tryz.underlying237
 a171:=Tryz.isAgg237
 z171:=Tryz.sizeOf237
 v171:=Tryz.zeroValue237
 t173:=Tryz.underlying240
 a173:=Tryz.isAgg240
 z173:=Tryz.sizeOf240
 v173:=Tryz.zeroValue240
 t175:=Tryz.underlying217
 a175:=Tryz.isAgg217
 z175:=Tryz.sizeOf217
 v175:=Tryz.zeroValue217
 t210:=Tryz.underlying220
 a210:=Tryz.isAgg220
 z210:=Tryz.sizeOf220
 v210:=Tryz.zeroValue220
 t212:=Tryz.underlying247
 a212:=Tryz.isAgg247
 z212:=Tryz.sizeOf247
 v212:=Tryz.zeroValue247
 t213:=Tryz.underlying248
 a213:=Tryz.isAgg248
 z213:=Tryz.sizeOf248
 t232:=Tryz.underlying251
 a232:=Tryz.isAgg251
 z232:=Tryz.sizeOf251
 v232:=Tryz.zeroValue251
 t233:=Tryz.underlying252
 a233:=Tryz.isAgg252
 z233:=Tryz.sizeOf252
 v233:=Tryz.zeroValue252
 g15:=by kernel_rfl
 g16:=by kernel_rfl
 g17:=by kernel_rfl
 g18:=by kernel_rfl
 g19:=by kernel_rfl
 t80:=Tryz.underlying55
 a80:=Tryz.isAgg55
 z80:=Tryz.sizeOf55
 v80:=Tryz.zeroValue55
 i0:=by kernel_rfl
 i2:=by kernel_rfl
 i3:=by kernel_rfl
 i4:=by kernel_rfl
 i5:=by kernel_rfl
 i9:=by kernel_rfl
 i20:=by kernel_rfl
 i21:=by kernel_rfl
 i37:=by kernel_rfl
 i46:=by kernel_rfl
 i51:=by kernel_rfl
 i53:=by kernel_rfl
 i75:=by kernel_rfl
 i76:=by kernel_rfl
 i80:=by kernel_rfl
 i85:=by kernel_rfl
 i127:=by kernel_rfl
 i143:=by kernel_rfl
 i145:=by kernel_rfl
 i167:=by kernel_rfl
 i168:=by kernel_rfl
 i171:=by kernel_rfl
 i173:=by kernel_rfl
 i175:=by kernel_rfl
 i210:=by kernel_rfl
 i212:=by kernel_rfl
 i232:=by kernel_rfl
 i233:=by kernel_rfl
 m15:=by kernel_rfl
 m16:=by kernel_rfl
 m17:=by kernel_rfl
 m18:=by kernel_rfl
 m19:=by kernel_rfl
 c0:=by kernel_rfl
 c2:=by kernel_rfl
 c3:=by kernel_rfl
 c4:=by kernel_rfl
 c5:=by kernel_rfl
 c9:=by kernel_rfl
 c20:=by kernel_rfl
 c21:=by kernel_rfl
 c37:=by kernel_rfl
 c46:=by kernel_rfl
 c51:=by kernel_rfl
 c53:=by kernel_rfl
 c75:=by kernel_rfl
 c76:=by kernel_rfl
 c80:=by kernel_rfl
 c85:=by kernel_rfl
 c127:=by kernel_rfl
 c143:=by kernel_rfl
 c145:=by kernel_rfl
 c167:=by kernel_rfl
 c168:=by kernel_rfl
 c171:=by kernel_rfl
 c173:=by kernel_rfl
 c175:=by kernel_rfl
 c210:=by kernel_rfl
 c212:=by kernel_rfl
 c213:=by kernel_rfl
 c232:=by kernel_rfl
 c233:=by kernel_rfl }
def lays227_ren:Go.Shelf.Ren:=⟨fun | 227=>95 | n=>n,fun | 9=>9 | 116=>144 | 4=>4 | 0=>0 | 3=>3 | 5=>5 | n=>n,fun | n=>n⟩
theorem lays227:Go.Proofs.Lays.n227 Tryz.prog lays227_ren:= {
 mixed:=by kernel_rfl
 f227:=Tryz.func95.trans (congrArg some (by kernel_rfl))
 t0:=Tryz.underlying0
 a0:=Tryz.isAgg0
 z0:=Tryz.sizeOf0
 v0:=Tryz.zeroValue0
 t3:=Tryz.underlying3
 a3:=Tryz.isAgg3
 z3:=Tryz.sizeOf3
 v3:=Tryz.zeroValue3
 t4:=Tryz.underlying4
 a4:=Tryz.isAgg4
 z4:=Tryz.sizeOf4
 v4:=Tryz.zeroValue4
 t5:=Tryz.underlying5
 a5:=Tryz.isAgg5
 z5:=Tryz.sizeOf5
 v5:=Tryz.zeroValue5
 t9:=Tryz.underlying9
 a9:=Tryz.isAgg9
 z9:=Tryz.sizeOf9
 v9:=Tryz.zeroValue9
 t116:=Tryz.underlying144
 a116:=Tryz.isAgg144
 z116:=Tryz.sizeOf144 }
def lays228_ren:Go.Shelf.Ren:=⟨fun | 228=>123 | n=>n,fun | 124=>148 | 5=>5 | 4=>4 | 0=>0 | 116=>144 | n=>n,fun | n=>n⟩
theorem lays228:Go.Proofs.Lays.n228 Tryz.prog lays228_ren:= {
 mixed:=by kernel_rfl
 f228:=Tryz.func123.trans (congrArg some (by kernel_rfl))
 t0:=Tryz.underlying0
 a0:=Tryz.isAgg0
 z0:=Tryz.sizeOf0
 v0:=Tryz.zeroValue0
 t4:=Tryz.underlying4
 a4:=Tryz.isAgg4
 z4:=Tryz.sizeOf4
 v4:=Tryz.zeroValue4
 t5:=Tryz.underlying5
 a5:=Tryz.isAgg5
 z5:=Tryz.sizeOf5
 v5:=Tryz.zeroValue5
 t116:=Tryz.underlying144
 a116:=Tryz.isAgg144
 z116:=Tryz.sizeOf144
 t124:=Tryz.underlying148
 a124:=Tryz.isAgg148
 z124:=Tryz.sizeOf148
 v124:=Tryz.zeroValue148 }
end Pln
namespace Pln
open Utf Rws
open Go.RowKit
def c3 (b:UInt8):Bool:=b==9 || b==10 || b==13
def anyB (l:List UInt8):Bool:=l.any c3
theorem anyB_has (l:List UInt8):anyB l=(has 9 l || has 10 l || has 13 l):=by
 unfold anyB has
 induction l with
 | nil=>rfl
 | cons b r ih =>
  simp only[List.any_cons,ih,c3];cases (b==9)<;>cases (b==10)<;>cases (b==13)<;>simp
theorem any_take_snoc (l:List UInt8) (n:Nat) (h:n<l.length):(l.take (n+1)).any c3=((l.take n).any c3 || c3 (l.getD n 0)):=by
 rw[List.take_succ_eq_append_getElem h,List.any_append,List.getD_eq_getElem?_getD,List.getElem?_eq_getElem h];simp
theorem any_hit (l:List UInt8) (n:Nat) (h:n<l.length) (hc:c3 (l.getD n 0)=true):anyB l=true:=by
 unfold anyB;rw[List.any_eq_true];rw[List.getD_eq_getElem?_getD,List.getElem?_eq_getElem h]at hc;exact⟨l[n],List.getElem_mem h,hc⟩
def IxRes (l:List UInt8) (e:Ending):Prop:=∃ r:Int,e=.returned (.int .i64 r)/\decide (0<=r)=anyB l
theorem zero_set:(Tryz.prog.info? 144).map (fun i=>(i.zero,i.size))=some (some (.agg (Array.replicate 256 (.bool false))),256):=by kernel_rfl
theorem set_has (x:UInt8):([9,10,13]:List UInt8).contains x=c3 x:=by
 unfold c3;show ((x==9) || ((x==10) || ((x==13) || false)))=_;rw[Bool.or_false,Bool.or_assoc]
theorem shouldUse_any (n:Int) (w:World):Calls Tryz.prog 142 #[.int .i64 n] w fun e w'=>e=.returned (.bool (decide (8<n)))/\w=w':=by
 go_enter Tryz.func142,Tryz.ntmps142;go_wp2;go_ret;exact⟨rfl,rfl⟩
theorem indexAny_long (l:List UInt8) (w:World) (hs:l.length<=140737488351232) (h8:8<l.length):Calls Tryz.prog 110 #[.string (mk l),.string ⟨#[9,10,13]⟩] w fun e w'=>IxRes l e/\Below w.heap.size w w':=by
 have hsz:=mk_size l
 have hM:=Any.strings_makeASCIISet lays227 (zero_of_info zero_set).1 (zero_of_info zero_set).2 ⟨#[9,10,13]⟩ w (by decide) (by
  intro j b hb
  match j,hb with
  | 0,hb=>simp at hb;subst hb;decide
  | 1,hb=>simp at hb;subst hb;decide
  | 2,hb=>simp at hb;subst hb;decide
  | j+3,hb=>simp at hb)
 obtain⟨C,HC⟩:∃ C,Hid (Lib.setCells (⟨#[9,10,13]⟩:ByteArray).data.toList=C):=⟨_,rfl⟩;rw[HC.out]at hM;have hC1:C.size=256:=by rw[<-HC.out];exact Lib.setCells_size _
 have hC2:C.all (·.oneCell')=true:=by rw[<-HC.out];exact Lib.setCells_one _
 have hC3:∀ x:UInt8,C[x.toNat]?=some (.bool (c3 x)):=fun x=>by
  rw[<-HC.out,Lib.setCells_at];congr 2;exact set_has x
 clear HC;have HM:Hid (Calls Tryz.prog 95 #[.string ⟨#[9,10,13]⟩] w fun e w'=>e=.returned (.tuple #[.agg C,.bool true])/\w'=w.alloc (.cells C 144)):=hM;clear hM
 have hsc:(storeCells ⟨w.heap.size+1,0,none⟩ C.toList 0).run Tryz.prog ((w.alloc (.cells C 144)).alloc (.cells Tryz.zeroCells144 144))=.ok () ((w.alloc (.cells C 144)).alloc (.cells C 144)):=by
  have:=run_storeCells_new (P:=Tryz.prog) (w.alloc (.cells C 144)) 144 Tryz.zeroCells144 C (by rw[hC1];exact(zero_of_info zero_set).2) (by rw[hC1];kernel_rfl) hC2;simpa using this
 have HS:Hid ((storeCells ⟨w.heap.size+1,0,none⟩ C.toList 0).run Tryz.prog ((w.alloc (.cells C 144)).alloc (.cells Tryz.zeroCells144 144))=.ok () ((w.alloc (.cells C 144)).alloc (.cells C 144))):=hsc;clear hsc;have H3:Hid (∀ x:UInt8,C[x.toNat]?=some (.bool (c3 x))):=hC3;have H1:Hid (C.size=256):=hC1;clear hC3 hC2 hC1;have h8z:decide ((8:Int)<(l.length:Int))=true:=decide_eq_true (by omega);go_enter Tryz.func110,Tryz.ntmps110;go_wp2_with (first | (go_at_call 142;refine(shouldUse_any _ _).mono ?_;rintro e w' ⟨rfl,rfl⟩;rw[h8z]) | (go_at_call 95;refine HM.out.mono ?_;rintro e w' ⟨rfl,rfl⟩));rw[HS.out];simp only[Result.andThen];rw[Oper.upon_skip];go_wp2
 go_loop [8] (fun i=>∃ n:Nat,n<=l.length/\i=.int .i64 n/\(l.take n).any c3=false) (fun i=>l.length-(intOf i).toNat)
 case atStart=>exact⟨0,Nat.zero_le _,rfl,rfl⟩
 case round =>
  obtain⟨n,hn1,rfl,ht⟩:=hrel;have HT:Hid ((l.take n).any c3=false):=ht;clear ht;by_cases hlt:n<l.length
  ·have hg:∀ h,(mk l)[n]'h=l.getD n 0:=fun h=>mk_getD l n h
   have hlt':n<(mk l).size:=by rw[mk_size];exact hlt
   have hsn:=any_take_snoc l n hlt;rw[HT.out,Bool.false_or]at hsn;have HSN:Hid ((l.take (n+1)).any c3=c3 (l.getD n 0)):=hsn;have hhit:=any_hit l n hlt;have HH:Hid (c3 (l.getD n 0)=true->anyB l=true):=hhit;clear hsn hhit
   have hcell:((w.alloc (.cells C 144)).alloc (.cells C 144)).cell? ⟨w.heap.size+1,(l.getD n 0).toNat,none⟩=some (.bool (c3 (l.getD n 0))):=by
    rw[World.cell?_alloc_at _ _ _ _ (by simp),H3.out]
   have hcon:=Any.asciiSet_contains lays228 (w.heap.size+1) (l.getD n 0) (c3 (l.getD n 0)) _ hcell;have HC:Hid (Calls Tryz.prog 123 #[.pointer (some ⟨w.heap.size+1,0,none⟩),.int .u8 ((l.getD n 0).toNat:Int)] ((w.alloc (.cells C 144)).alloc (.cells C 144)) fun e w'=>e=.returned (.bool (c3 (l.getD n 0)))/\w'=((w.alloc (.cells C 144)).alloc (.cells C 144))):=hcon;clear hcon hcell;generalize l.getD n 0=b at hg HSN HH HC;cases hb:c3 b
   ·rw[hb]at HC HSN;go_wp2_with (first | (go_at_call 123;refine HC.out.mono ?_;rintro e w' ⟨rfl,rfl⟩));go_round
    case rel=>exact⟨n+1,by omega,by go_num,HSN.out⟩
    case measure=>simp[intOf];omega
   ·rw[hb]at HC;go_wp2_with (first | (go_at_call 123;refine HC.out.mono ?_;rintro e w' ⟨rfl,rfl⟩));go_ret;refine⟨⟨(n:Int),rfl,?_⟩,((Below.refl _ _).alloc (Nat.le_refl _) _).alloc (by simp) _⟩;rw[HH.out hb];simp
  ·have HN:Hid (anyB l=false):=by
    have:=HT.out;rw[List.take_of_length_le (by omega)]at this;exact this
   go_wp2;go_ret;refine⟨⟨-1,rfl,?_⟩,((Below.refl _ _).alloc (Nat.le_refl _) _).alloc (by simp) _⟩;rw[HN.out];rfl
end Pln
namespace Pln
open Utf Rws
open Go.RowKit
theorem enc_last (r:Int) (h:128<=r) (h2:r<=1114111):∃ (q:List UInt8) (c:UInt8),Utf8.encode r=mk (q++[c])/\(q.length=1\/q.length=2\/q.length=3)/\128<=c.toNat:=by
 have e0:Utf8.encode r=Utf8.encode r:=rfl;have hl:∀ n:Nat,128<=(UInt8.ofNat (128+n % 64)).toNat:=fun n=>by rw[UInt8.toNat_ofNat'];omega
 unfold Utf8.encode
 have hc:128<=(if Utf8.valid r=true then r.toNat else Utf8.runeError):=by
  split
  ·omega
  ·decide
 generalize (if Utf8.valid r=true then r.toNat else Utf8.runeError)=c at hc;simp only;rw[if_neg (by omega)];by_cases h1:c<2048
 ·rw[if_pos h1];exact⟨[UInt8.ofNat (192+c / 64)],UInt8.ofNat (128+c % 64),rfl,.inl rfl,hl c⟩
 ·rw[if_neg h1];by_cases h3:c<65536
  ·rw[if_pos h3];exact⟨[UInt8.ofNat (224+c / 4096),UInt8.ofNat (128+c / 64 % 64)],UInt8.ofNat (128+c % 64),rfl,.inr (.inl rfl),hl c⟩
  ·rw[if_neg h3];exact⟨[UInt8.ofNat (240+c / 262144),UInt8.ofNat (128+c / 4096 % 64),UInt8.ofNat (128+c / 64 % 64)],UInt8.ofNat (128+c % 64),rfl,.inr (.inr rfl),hl c⟩
theorem has_c3 (b:UInt8):has b [9,10,13]=c3 b:=by
 unfold has c3;simp only[List.any_cons,List.any_nil,Bool.or_false];rw[Bool.or_assoc];congr 1
 ·exact Bool.beq_comm
 ·congr 1<;>exact Bool.beq_comm
theorem rune_ascii (b:UInt8) (w:World) (h:b.toNat<128):Calls Tryz.prog 141 #[.string ⟨#[9,10,13]⟩,.int .i32 b.toNat] w fun e w'=>(∃ r:Int,e=.returned (.int .i64 r)/\decide (0<=r)=c3 b)/\w=w':=by
 have h0:(0:Int)<=(b.toNat:Int):=by omega
 have h1:(b.toNat:Int)<128:=by omega
 have HI:Hid (decide (0<=idx b (⟨#[9,10,13]⟩:ByteArray).data.toList)=c3 b):=by
  rw[idx_has];exact has_c3 b
 go_enter Tryz.func141,Tryz.ntmps141;go_wp2_with (first | (go_at_call 111;refine(indexByte_any _ b _).mono ?_;rintro e w' ⟨rfl,rfl⟩));go_ret;exact⟨⟨_,rfl,HI.out⟩,rfl⟩
theorem rune_error (w:World):Calls Tryz.prog 141 #[.string ⟨#[9,10,13]⟩,.int .i32 65533] w fun e w'=>e=.returned (.int .i64 (-1))/\Below w.heap.size w w':=by
 have n0:=fun ty=>run_next_any (P:=Tryz.prog) w ⟨#[9,10,13]⟩ 0 ty (by decide)
 have n1:=fun ty=>run_next_any (P:=Tryz.prog) w ⟨#[9,10,13]⟩ 1 ty (by decide)
 have n2:=fun ty=>run_next_any (P:=Tryz.prog) w ⟨#[9,10,13]⟩ 2 ty (by decide)
 have n3:=fun ty=>run_next_end (P:=Tryz.prog) w ⟨#[9,10,13]⟩ 3 ty (by decide)
 rw[show Utf8.decode ⟨#[9,10,13]⟩ 0=(9,1) by decide]at n0;rw[show Utf8.decode ⟨#[9,10,13]⟩ 1=(10,1) by decide]at n1;rw[show Utf8.decode ⟨#[9,10,13]⟩ 2=(13,1) by decide]at n2;go_enter Tryz.func141,Tryz.ntmps141;go_wp2
 go_loopw [5,6] (fun _ _ wr=>∃ n:Nat,n<=3/\wr=w.iter ⟨#[9,10,13]⟩ n) (fun _ _ wr=>3-wr.iterPos w.heap.size)
 case atStart=>exact⟨0,by decide,rfl⟩
 case round =>
  obtain⟨n,hn,rfl⟩:=hrel;have h4:n=0\/n=1\/n=2\/n=3:=by omega
  rcases h4 with rfl | rfl | rfl | rfl
  ·clear n1 n2 n3;go_wp2;go_roundw
   case rel=>exact⟨1,by decide,rfl⟩
   case measure=>simp
  ·clear n0 n2 n3;go_wp2;go_roundw
   case rel=>exact⟨2,by decide,rfl⟩
   case measure=>simp
  ·clear n0 n1 n3;go_wp2;go_roundw
   case rel=>exact⟨3,by decide,rfl⟩
   case measure=>simp
  ·clear n0 n1 n2;go_wp2;go_ret;exact⟨rfl,(Below.refl _ _).alloc (Nat.le_refl _) _⟩
theorem idx_one (c:UInt8) (h:128<=c.toNat) (l:List UInt8) (hl:∀ b∈l,b.toNat<128):idx c l= -1:=by
 refine idx_no ?_;unfold has;rw[List.any_eq_false];intro x hx;have:=hl x hx;simp only[beq_iff_eq];rintro rfl;omega
theorem rune_high (r:Int) (w:World) (h:128<=r) (h2:r<=1114111) (hv:Lib.validRune r=true) (hn:r≠65533):Calls Tryz.prog 141 #[.string ⟨#[9,10,13]⟩,.int .i32 r] w fun e w'=>e=.returned (.int .i64 (-1))/\Below w.heap.size w w':=by
 obtain⟨q,c,he,hq,hc⟩:=enc_last r h h2
 have HV:Hid (Calls Tryz.prog 173 #[.int .i32 r] w fun e w'=>e=.returned (.bool true)/\w'=w):=by
  have:=Any.utf8_ValidRune lays119 r w;rw[hv]at this;exact this
 clear hv;have hne:(r==65533)=false:=by simpa using hn
 have hlt: ¬ r<128:=by omega
 have h0:0<=r:=by omega
 have hsz:(mk (q++[c])).size=q.length+1:=by rw[mk_size];simp
 have hg:∀ h,(mk (q++[c]))[q.length]'h=c:=fun h=>by rw[mk_get];simp
 have hx13:=idx_one c hc [13] (by decide);have hx0:=idx_one c hc [] (by simp);have hk1:∀ h,((⟨#[9,10,13]⟩:ByteArray)[1]'h)=10:=fun _=>rfl
 have hk2:∀ h,((⟨#[9,10,13]⟩:ByteArray)[2]'h)=13:=fun _=>rfl
 have hd10:((10:Int)==(c.toNat:Int))=false:=by rw[beq_eq_false_iff_ne];omega
 have hd13:((13:Int)==(c.toNat:Int))=false:=by rw[beq_eq_false_iff_ne];omega
 have hn10:((10:Int)!=(c.toNat:Int))=true:=by rw[bne_iff_ne];omega
 have hn13:((13:Int)!=(c.toNat:Int))=true:=by rw[bne_iff_ne];omega
 rcases hq with hq | hq | hq
 ·rw[hq]at hsz hg
  have HI:Hid (∀ w,Calls Tryz.prog 111 #[.string ⟨#[13]⟩,.int .u8 (c.toNat:Int)] w fun e w'=>e=.returned (.int .i64 (-1))/\w'=w):=fun w=>(indexByte_any ⟨#[13]⟩ c w).mono (by
   rintro e w' ⟨rfl,rfl⟩;exact⟨by rw[show (⟨#[13]⟩:ByteArray).data.toList=[13]from rfl,hx13],rfl⟩)
  have hex:(⟨#[9,10,13]⟩:ByteArray).extract 2 3=⟨#[13]⟩:=by decide
  have hw2:IntKind.i64.wrap 2=2:=by decide
  go_enter Tryz.func141,Tryz.ntmps141;go_wp2_with (first | (go_at_call 173;refine HV.out.mono ?_;rintro e w' ⟨rfl,rfl⟩));go_step3;go_wp2
  go_loop [9] (fun i=>i=.int .i64 1) (fun _=>0)
  case atStart=>exact rfl
  case round =>
   obtain rfl:=hrel;go_wp2;go_step3;go_wp2;go_region
   all_goals go_wp2
   go_quiet (exact(HI.out _).mono (fun _ _ ⟨he,hm⟩=>⟨he,_,hm⟩));go_wp2;rw[Exit.noGoto_ret];simp only[Exit.inBlock];rename_i Q5 _ _ _ _ _;simp only[Q5,Exit.then,Exit.inBlock,Exit.noGoto_ret];go_ret;exact⟨rfl,⟨rfl,rfl,rfl,Nat.le_refl _,fun _ _=>rfl⟩⟩
 ·rw[hq]at hsz hg
  have HI:Hid (∀ w,Calls Tryz.prog 111 #[.string ⟨#[]⟩,.int .u8 (c.toNat:Int)] w fun e w'=>e=.returned (.int .i64 (-1))/\w'=w):=fun w=>(indexByte_any ⟨#[]⟩ c w).mono (by
   rintro e w' ⟨rfl,rfl⟩;exact⟨by rw[show (⟨#[]⟩:ByteArray).data.toList=[]from rfl,hx0],rfl⟩)
  have hex:(⟨#[9,10,13]⟩:ByteArray).extract 3 3=⟨#[]⟩:=by decide
  have hw2:IntKind.i64.wrap 3=3:=by decide
  go_enter Tryz.func141,Tryz.ntmps141;go_wp2_with (first | (go_at_call 173;refine HV.out.mono ?_;rintro e w' ⟨rfl,rfl⟩));go_step3;go_wp2
  go_loop [9] (fun i=>i=.int .i64 2) (fun _=>0)
  case atStart=>exact rfl
  case round =>
   obtain rfl:=hrel;go_wp2;go_step3;go_wp2;go_region
   all_goals go_wp2
   go_quiet (exact(HI.out _).mono (fun _ _ ⟨he,hm⟩=>⟨he,_,hm⟩));go_wp2;rw[Exit.noGoto_ret];simp only[Exit.inBlock];rename_i Q5 _ _ _ _ _;simp only[Q5,Exit.then,Exit.inBlock,Exit.noGoto_ret];go_ret;exact⟨rfl,⟨rfl,rfl,rfl,Nat.le_refl _,fun _ _=>rfl⟩⟩
 ·rw[hq]at hsz hg;go_enter Tryz.func141,Tryz.ntmps141;go_wp2_with (first | (go_at_call 173;refine HV.out.mono ?_;rintro e w' ⟨rfl,rfl⟩));go_step3;go_wp2
  go_loop [9] (fun i=>i=.int .i64 3) (fun _=>0)
  case atStart=>exact rfl
  case round =>
   obtain rfl:=hrel;go_wp2;go_ret;exact⟨rfl,⟨rfl,rfl,rfl,Nat.le_refl _,fun _ _=>rfl⟩⟩
end Pln
end Go.Proofs.YtidhpmcmbooaoaaGreatDoor
