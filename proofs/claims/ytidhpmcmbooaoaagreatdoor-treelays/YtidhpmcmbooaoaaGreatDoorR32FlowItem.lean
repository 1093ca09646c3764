/- . -/
import Derived.Test.YtidhpmcmbooaoaaGreatDoorR31FlowTree
import Derived.Test.YtidhpmcmbooaoaaGreatDoorR29TreeRows2
set_option linter.unusedSimpArgs false
set_option linter.unusedVariables false
set_option maxRecDepth 100000
namespace Go.Proofs.YtidhpmcmbooaoaaGreatDoor
namespace Flw
open Utf Rws Pln
open Go.RowKit
set_option maxHeartbeats 4000000
variable {b p dp d:Nat} {s:Ln} {w w1 w2:World} {vf:Ln->Ot (Tr × Ln)}
def ValOk (b:Nat) (s:Ln) (dp d:Nat) (vf:Ln->Ot (Tr × Ln)):Prop:=∀ (w:World) (p:Nat),Rd w b s p dp->p<=s.length->TbB b w->Calls Tryz.prog 108 #[.pointer (some ⟨b,0,none⟩),.bool true] w fun e w'=>ValRes b s dp w d (vf (s.drop p)) e w'
structure S3 (w0 w:World) (b K0 KT KF:Nat) (tc fc:Array Value):Prop where
 k0:Bx w K0 zF 33
 kt:Bx w KT tc 24
 kf:Bx w KF fc 33
 fr:Fr b w0 w
 hb:b<w0.heap.size
 h0:w0.heap.size<=K0
 h1:K0<KT
 h2:KT<KF
variable {K0 KT KF:Nat} {tc fc:Array Value} {w0:World}
theorem Kd.drew1 {c d:Nat} {xs:List Value} {ks:List Tr} (h:Kd c w d xs ks):Kd c w.drew d xs ks:=h.later ((Below.refl _ _).drew)
theorem S3.new (hx:Bx w K0 zF 33) (hf:Fr b w0 w) (hb:b<w0.heap.size) (h0:w0.heap.size<=K0) (tc fc:Array Value):S3 w0 ((w.alloc (.cells tc 24)).alloc (.cells fc 33)) b K0 w.heap.size (w.heap.size+1) tc fc:=by
 have b1:=below_alloc w (.cells tc 24);have b2:=below_alloc (w.alloc (.cells tc 24)) (.cells fc 33);have e1:(w.alloc (.cells tc 24)).heap.size=w.heap.size+1:=by simp
 have x1:=Bx.new (w.alloc (.cells tc 24)) fc 33;rw[e1]at x1;exact⟨(hx.later b1).later b2,(Bx.new w tc 24).later b2,x1,hf.trans (Fr.of (b1.trans (b2.mono (by omega))) (by have:=hf.size;omega)),hb,h0,hx.lt,by omega⟩
theorem S3.later (h:S3 w0 w b K0 KT KF tc fc) (hb:Below w.heap.size w w1):S3 w0 w1 b K0 KT KF tc fc :=
 ⟨h.k0.later hb,h.kt.later hb,h.kf.later hb,h.fr.trans (Fr.of hb (by have:=h.hb;have:=h.fr.size;omega)),h.hb,h.h0,h.h1,h.h2⟩
theorem S3.setF (h:S3 w0 w b K0 KT KF tc fc) (x y:Value) (hz:fc.size=2):S3 w0 ((w.setCell ⟨KF,0,none⟩ x).setCell ⟨KF,1,none⟩ y) b K0 KT KF tc #[x,y]:=by
 have:=h.hb;have:=h.h0;have:=h.h1;have:=h.h2
 have e:(fc.setIfInBounds 0 x).setIfInBounds 1 y=#[x,y]:=by
  obtain⟨l⟩:=fc
  match l,hz with
  | [u,v],_=>rfl
 exact⟨(h.k0.other (by omega) _ _).other (by omega) _ _,(h.kt.other (by omega) _ _).other (by omega) _ _,e▸(h.kf.set 0 x).set 1 y,(h.fr.new (by omega) (by omega) _ _).new (by omega) (by omega) _ _,h.hb,h.h0,h.h1,h.h2⟩
theorem item_any (hV:ValOk b s dp d vf) (hbad:∀ l e,vf l=.error e->e.1≠0) (h:Rd w b s p dp) (hp:p<=s.length) (hs:s.length<=65536) (hT:TbB b w) :
  Calls Tryz.prog 169 #[.pointer (some ⟨b,0,none⟩)] w fun e w'=>PrtRes b s dp w d (litem vf (s.drop p)) e w':=by
 have hlt:=h.lt;have hb0:=below_alloc w (.cells zF 33);have hr0:=h.later hb0;have hx0:=Bx.new w zF 33;have hT0:=hT.later hb0;obtain⟨W,hW⟩:∃ W,w.alloc (.cells zF 33)=W:=⟨_,rfl⟩;rw[hW]at hb0 hr0 hx0 hT0;have c1:=hr0.c1;have HVA:Hid (Calls Tryz.prog 108 #[.pointer (some ⟨b,0,none⟩),.bool true] W fun e w'=>ValRes b s dp W d (vf (s.drop p)) e w'):=hV W p hr0 hp hT0;have hW':w.alloc (.cells #[.int .i64 0,.int .i64 0] 33)=W:=hW;go_enter Tryz.func169,Tryz.ntmps169;go_wp2_with fail;refine HVA.out.mono ?_;intro e w3 hres;generalize hvf:vf (s.drop p)=r at hres
 cases r with
 | error F =>
  obtain⟨v,t,ht,rfl,hf3⟩:=hres;obtain⟨k,x,a,ad,len,cap,rfl⟩:=ht.cells;have hF0:=hbad _ _ hvf;have HLI:Hid (litem vf (s.drop p)=.error F):=by unfold litem;rw[hvf];exact rfl
  unfold fv;have hS:=S3.new (hx0.fr hf3 hlt) ((Fr.of hb0 hlt).trans hf3) hlt (Nat.le_refl _) #[.int .i64 k,.string x,.string a,.slice ad len cap] #[.int .i64 (F.1:Int),.int .i64 ((s.length-F.2:Nat):Int)];go_upto_region 3 with fail
  generalize hw4:(w3.alloc (.cells #[.int .i64 k,.string x,.string a,.slice ad len cap] 24)).alloc (.cells #[.int .i64 (F.1:Int),.int .i64 ((s.length-F.2:Nat):Int)] 33)=w4 at hS |-;generalize hKF:w3.heap.size+1=KF at hS |-;generalize hKT:w3.heap.size=KT at hS |-;generalize hK0:w.heap.size=K0 at hS |-;have HS:Hid (S3 w w4 b K0 KT KF #[.int .i64 k,.string x,.string a,.slice ad len cap] #[.int .i64 (F.1:Int),.int .i64 ((s.length-F.2:Nat):Int)]):=hS;have HK0:Hid (w.heap.size<=K0):=Nat.le_of_eq hK0;have HK1:Hid (K0<W.heap.size):=by rw[<-hK0];exact hx0.lt
  have HSW:Hid (w.heap.size<=W.heap.size):=hb0.size;clear hKF hKT hK0 hS;clear hw4 hW' hW ht hf3 HVA hvf hV c1 hr0 hT0 hx0 hb0;obtain⟨i0,i1⟩:=HS.out.kf.c2;obtain⟨t0,t1,t2,t3⟩:=HS.out.kt.c4;obtain⟨y0,y1⟩:=HS.out.k0.c2;have v0:=HS.out.k0.fz 0;have v1:=HS.out.k0.fz 1;have hF1:((F.1:Int)==0)=false:=by rw[beq_eq_false_iff_ne];omega
  clear hF0;obtain⟨w5,hw5⟩:∃ w5,w4.alloc (.cells #[.int .i64 k,.string x,.string a,.slice ad len cap] 24)=w5:=⟨_,rfl⟩;have HB5:Hid (Below w4.heap.size w4 w5):=by rw[<-hw5];exact below_alloc _ _
  have HX5:Hid (Bx w5 w4.heap.size #[.int .i64 k,.string x,.string a,.slice ad len cap] 24):=by rw[<-hw5];exact Bx.new _ _ _
  have HS5:Hid (S3 w w5 b K0 KT KF #[.int .i64 k,.string x,.string a,.slice ad len cap] #[.int .i64 (F.1:Int),.int .i64 ((s.length-F.2:Nat):Int)]):=HS.out.later HB5.out;obtain⟨n0,n1⟩:=HS5.out.kf.c2;obtain⟨m0,m1⟩:=HS5.out.k0.c2;have m2:=HS5.out.k0.fz 0;have m3:=HS5.out.k0.fz 1;have hd1:KF≠K0:=by have:=HS5.out.h1;have:=HS5.out.h2;omega
  have hd2:K0≠KF:=by omega
  go_wp2;go_region
  all_goals
   go_wp2;refine bodyPost_ret (v:=.tuple #[.slice (some ⟨w4.heap.size,0,none⟩) 1 1,.agg #[.int .i64 (F.1:Int),.int .i64 ((s.length-F.2:Nat):Int)]]) (by simp[results,Tryz.results169,go_sem,m0,m1]) rfl ?_;rw[HLI.out];exact⟨_,1,rfl,(HS5.out.fr.box HS5.out.h0 (by have:=HS5.out.hb;have:=HS5.out.h0;omega) _ _).drew⟩
 | ok r =>
  obtain⟨t,l'⟩:=r;obtain⟨v,rfl,ht,⟨q,hq,hl',hr3⟩,hf3⟩:=hres;simp only at ht hl';subst hl';obtain⟨k,x,a,ad,len,cap,rfl⟩:=ht.cells;unfold f0;have hS:=S3.new (hx0.fr hf3 hlt) ((Fr.of hb0 hlt).trans hf3) hlt (Nat.le_refl _) #[.int .i64 k,.string x,.string a,.slice ad len cap] #[.int .i64 0,.int .i64 0];go_upto_region 3 with fail
  generalize hw4:(w3.alloc (.cells #[.int .i64 k,.string x,.string a,.slice ad len cap] 24)).alloc (.cells #[.int .i64 0,.int .i64 0] 33)=w4 at hS |-;generalize hKF:w3.heap.size+1=KF at hS |-;generalize hKT:w3.heap.size=KT at hS |-;generalize hK0:w.heap.size=K0 at hS |-;have HS:Hid (S3 w w4 b K0 KT KF #[.int .i64 k,.string x,.string a,.slice ad len cap] #[.int .i64 0,.int .i64 0]):=hS;have HK0:Hid (w.heap.size<=K0):=Nat.le_of_eq hK0;have HK1:Hid (K0<W.heap.size):=by rw[<-hK0];exact hx0.lt
  have HSW:Hid (w.heap.size<=W.heap.size):=hb0.size;clear hKF hKT hK0 hS;have hb4:Below w3.heap.size w3 w4:=by rw[<-hw4];exact(below_alloc _ _).trans ((below_alloc _ _).mono (by simp))
  have HR4:Hid (Rd w4 b s q dp):=hr3.later hb4;have HT4:Hid (TrP W.heap.size w4 d (.agg #[.int .i64 k,.string x,.string a,.slice ad len cap]) t):=ht.later hb4;clear hw4 hW' hW ht hf3 HVA hV c1 hr0 hT0 hx0 hb0 hr3 hb4;have c1:=HR4.out.c1;obtain⟨i0,i1⟩:=HS.out.kf.c2;obtain⟨t0,t1,t2,t3⟩:=HS.out.kt.c4;obtain⟨y0,y1⟩:=HS.out.k0.c2;have v0:=HS.out.k0.fz 0;have v1:=HS.out.k0.fz 1;by_cases hqp:q=p
  ·have HLI:Hid (litem vf (s.drop p)=.error (stands (gaps (s.drop q)))):=by unfold litem;rw[hvf,bnd_ok];simp only;rw[if_pos (by rw[hqp])];exact rfl
   have HWR:Hid (Calls Tryz.prog 187 #[.pointer (some ⟨b,0,none⟩)] w4 fun e w'=>e=.returned (fv s.length (stands (gaps (s.drop q))))/\Hid (S3 w w' b K0 KT KF #[.int .i64 k,.string x,.string a,.slice ad len cap] #[.int .i64 0,.int .i64 0])):=(wrong_any HR4.out hq hs).mono (fun e w' h=>⟨h.1,HS.out.later h.2⟩);generalize stands (gaps (s.drop q))=F at *;subst hqp;go_wp2_with fail;refine HWR.out.mono ?_;rintro e w6 ⟨rfl,HS6⟩;unfold fv;obtain⟨e0,e1⟩:=HS6.out.kf.c2;have e2:=HS6.out.kf.fz 0;have e3:=HS6.out.kf.fz 1;obtain⟨w7,hw7⟩:∃ w7,(w6.setCell ⟨KF,0,none⟩ (.int .i64 (F.1:Int))).setCell ⟨KF,1,none⟩ (.int .i64 ((s.length-F.2:Nat):Int))=w7:=⟨_,rfl⟩;have HS7:Hid (S3 w w7 b K0 KT KF #[.int .i64 k,.string x,.string a,.slice ad len cap] #[.int .i64 (F.1:Int),.int .i64 ((s.length-F.2:Nat):Int)]):=by rw[<-hw7];exact HS6.out.setF _ _ rfl
   clear HS HR4 HT4 HWR i0 i1 t0 t1 t2 t3 y0 y1 v0 v1 c1;obtain⟨i0,i1⟩:=HS7.out.kf.c2;obtain⟨t0,t1,t2,t3⟩:=HS7.out.kt.c4;obtain⟨y0,y1⟩:=HS7.out.k0.c2;have v0:=HS7.out.k0.fz 0;have v1:=HS7.out.k0.fz 1;obtain⟨w5,hw5⟩:∃ w5,w7.alloc (.cells #[.int .i64 k,.string x,.string a,.slice ad len cap] 24)=w5:=⟨_,rfl⟩;have HB5:Hid (Below w7.heap.size w7 w5):=by rw[<-hw5];exact below_alloc _ _
   have HX5:Hid (Bx w5 w7.heap.size #[.int .i64 k,.string x,.string a,.slice ad len cap] 24):=by rw[<-hw5];exact Bx.new _ _ _
   have HS5:Hid (S3 w w5 b K0 KT KF #[.int .i64 k,.string x,.string a,.slice ad len cap] #[.int .i64 (F.1:Int),.int .i64 ((s.length-F.2:Nat):Int)]):=HS7.out.later HB5.out;obtain⟨n0,n1⟩:=HS5.out.kf.c2;obtain⟨m0,m1⟩:=HS5.out.k0.c2;have m2:=HS5.out.k0.fz 0;have m3:=HS5.out.k0.fz 1;have hd1:KF≠K0:=by have:=HS5.out.h1;have:=HS5.out.h2;omega
   have hd2:K0≠KF:=by omega
   go_wp2;go_region
   all_goals
    go_wp2;refine bodyPost_ret (v:=.tuple #[.slice (some ⟨w7.heap.size,0,none⟩) 1 1,.agg #[.int .i64 (F.1:Int),.int .i64 ((s.length-F.2:Nat):Int)]]) (by simp[results,Tryz.results169,go_sem,m0,m1]) rfl ?_;rw[HLI.out];exact⟨_,1,rfl,(HS5.out.fr.box HS5.out.h0 (by have:=HS5.out.hb;have:=HS5.out.h0;omega) _ _).drew⟩
  ·have HLI:Hid (litem vf (s.drop p)=.ok ([t],s.drop q)):=by
    unfold litem;rw[hvf,bnd_ok];simp only;rw[if_neg (by rw[List.length_drop,List.length_drop];omega)];exact rfl
   have hqe:((q:Int)==(p:Int))=false:=by rw[beq_eq_false_iff_ne];omega
   obtain⟨w5,hw5⟩:∃ w5,w4.alloc (.cells #[.int .i64 k,.string x,.string a,.slice ad len cap] 24)=w5:=⟨_,rfl⟩;have HB5:Hid (Below w4.heap.size w4 w5):=by rw[<-hw5];exact below_alloc _ _
   have HX5:Hid (Bx w5 w4.heap.size #[.int .i64 k,.string x,.string a,.slice ad len cap] 24):=by rw[<-hw5];exact Bx.new _ _ _
   have HS5:Hid (S3 w w5 b K0 KT KF #[.int .i64 k,.string x,.string a,.slice ad len cap] #[.int .i64 0,.int .i64 0]):=HS.out.later HB5.out;obtain⟨n0,n1⟩:=HS5.out.kf.c2;obtain⟨m0,m1⟩:=HS5.out.k0.c2;have m2:=HS5.out.k0.fz 0;have m3:=HS5.out.k0.fz 1;have hd1:KF≠K0:=by have:=HS5.out.h1;have:=HS5.out.h2;omega
   have hd2:K0≠KF:=by omega
   have HR5:Hid (Rd w5 b s q dp):=HR4.out.later HB5.out;have HT5:Hid (TrP W.heap.size w5 d (.agg #[.int .i64 k,.string x,.string a,.slice ad len cap]) t):=HT4.out.later HB5.out;clear hqp HR4 HT4;go_wp2;go_region
   all_goals
    go_wp2;refine bodyPost_ret (v:=.tuple #[.slice (some ⟨w4.heap.size,0,none⟩) 1 1,.agg #[.int .i64 0,.int .i64 0]]) (by simp[results,Tryz.results169,go_sem,m0,m1]) rfl ?_;rw[HLI.out];have hbK:b<K0:=by have:=HS5.out.hb;have:=HS5.out.h0;omega
    have hKK:K0<w4.heap.size:=HS.out.k0.lt;refine⟨w4.heap.size,1,#[.int .i64 k,.string x,.string a,.slice ad len cap].toList,rfl,rfl,by decide,?_,by have:=HK0.out;omega,?_,⟨q,hq,rfl,(HR5.out.box (by omega) _ _).drew1⟩,(HS5.out.fr.box HS5.out.h0 (by have:=HS5.out.hb;have:=HS5.out.h0;omega) _ _).drew⟩
    ·exact(HX5.out.other (by omega) _ _).other (by omega) _ _
    ·exact((((Kd.one HT5.out).set HK1.out).set HK1.out).mono HSW.out).drew1
end Flw
namespace Flw
open Utf Rws Pln
open Go.RowKit
set_option maxHeartbeats 4000000
variable {b p dp d:Nat} {s:Ln} {w w1 w2:World} {vf:Ln->Ot (Tr × Ln)}
variable {K0 KT KF:Nat} {tc fc:Array Value} {w0:World}
theorem S3.step (h:S3 w0 w b K0 KT KF tc fc) (hf:Fr b w w1):S3 w0 w1 b K0 KT KF tc fc:=by
 have:=h.hb;have:=h.h0;have:=h.h1;have:=h.h2;exact⟨h.k0.fr hf (by omega),h.kt.fr hf (by omega),h.kf.fr hf (by omega),h.fr.trans hf,h.hb,h.h0,h.h1,h.h2⟩
theorem lscl_bad (f:Bool) (l:Ln):Bad (lscl f l):=by
 unfold lscl lplain;exact .ite (.bnd (quoted_bad _) fun _=>.ok _) (.bnd (.ite (.ok _) (.ite (.err (show 3≠0 by decide)) (.ok _))) fun _=>.ok _)
theorem lscl_leaf {f:Bool} {l:Ln} {x:(Tr × Ln) × Ln} (h:lscl f l=.ok x) (hl:l.length<=65536):x.1.1=⟨x.1.1.kind,x.1.1.text,[],[]⟩/\(1<=x.1.1.kind/\x.1.1.kind<=4)/\x.1.1.text.length<=65536/\x.1.2.length<=65536:=by
 have hg:=gaps_len l;unfold lscl at h;by_cases c:hd (gaps l)=39\/hd (gaps l)=34
 ·rw[if_pos c]at h;obtain⟨y,hy,h⟩:=bnd_inv h;cases h
  have:y.1.length<=(gaps l).length:=by
   unfold quoted at hy;obtain⟨_,hy⟩:=ite_inv hy;cases hy;exact rd_olen _
  exact⟨rfl,⟨by show (1:Int)<=4;decide,by show (4:Int)<=4;decide⟩,by show y.1.length<=_;omega,by show y.1.length<=_;omega⟩
 ·rw[if_neg c]at h;obtain⟨y,hy,h⟩:=bnd_inv h;cases h
  have hyl:y.1.length<=(gaps l).length:=by
   unfold lplain at hy;by_cases c1:cutT (gaps l) f=[]
   ·rw[if_pos c1]at hy;cases hy;exact Nat.zero_le _
   ·rw[if_neg c1]at hy;obtain⟨_,hy⟩:=ite_inv hy;cases hy;have h2:=cutT_len (gaps l) f;have h3:=fin_le (gaps l) f;show (cutT (gaps l) f).length<=_;omega
  refine⟨rfl,knd_bd _,?_,by show y.1.length<=_;omega⟩;show (if knd y.1=1 then []else y.1).length<=_;split
  ·exact Nat.zero_le _
  ·omega
theorem entry_any (hV:ValOk b s dp d vf) (hbad:∀ l e,vf l=.error e->e.1≠0) (h:Rd w b s p dp) (hp:p<=s.length) (hs:s.length<=65536) (hT:TbB b w) (hd1:1<=d) :
  Calls Tryz.prog 170 #[.pointer (some ⟨b,0,none⟩)] w fun e w'=>PrtRes b s dp w d (lentry vf (s.drop p)) e w':=by
 have hlt:=h.lt;have hb0:=below_alloc w (.cells zF 33);have hr0:=h.later hb0;have hx0:=Bx.new w zF 33;have hT0:=hT.later hb0;obtain⟨W,hW⟩:∃ W,w.alloc (.cells zF 33)=W:=⟨_,rfl⟩;rw[hW]at hb0 hr0 hx0 hT0;have c1:=hr0.c1;have HSC:Hid (Calls Tryz.prog 171 #[.pointer (some ⟨b,0,none⟩),.bool true] W fun e w'=>SclRes b s dp W (lscl true (s.drop p)) e w'):=scalar_any true hr0 hp hs hT0;have hW':w.alloc (.cells #[.int .i64 0,.int .i64 0] 33)=W:=hW;go_enter Tryz.func170,Tryz.ntmps170;go_wp2_with fail;refine HSC.out.mono ?_;intro e w3 hres;generalize hsc:lscl true (s.drop p)=r at hres
 cases r with
 | error F =>
  obtain⟨k,hk,rfl,hf3⟩:=hres;have hF0:=lscl_bad true _ _ hsc;have HLI:Hid (lentry vf (s.drop p)=.error F):=by unfold lentry;rw[hsc];exact rfl
  unfold fv lfV;have hS:=S3.new (hx0.fr hf3 hlt) ((Fr.of hb0 hlt).trans hf3) hlt (Nat.le_refl _) #[.int .i64 k,.string (mk []),.string (mk []),.slice none 0 0] #[.int .i64 (F.1:Int),.int .i64 ((s.length-F.2:Nat):Int)];go_upto_region 3 with fail
  generalize hw4:(w3.alloc (.cells #[.int .i64 k,.string (mk []),.string (mk []),.slice none 0 0] 24)).alloc (.cells #[.int .i64 (F.1:Int),.int .i64 ((s.length-F.2:Nat):Int)] 33)=w4 at hS |-;have hKTl:w3.heap.size<w4.heap.size:=hS.kt.lt;generalize hKF:w3.heap.size+1=KF at hS |-;generalize hKT:w3.heap.size=KT at hS hKTl |-;generalize hK0:w.heap.size=K0 at hS |-;have HS:Hid (S3 w w4 b K0 KT KF #[.int .i64 k,.string (mk []),.string (mk []),.slice none 0 0] #[.int .i64 (F.1:Int),.int .i64 ((s.length-F.2:Nat):Int)]):=hS;have HK0:Hid (w.heap.size<=K0):=Nat.le_of_eq hK0;have HKW:Hid (K0<W.heap.size):=by rw[<-hK0];exact hx0.lt
  have HSW:Hid (w.heap.size<=W.heap.size):=hb0.size;clear hK0 hS;clear hw4 hW' hW hf3 HSC hsc hV c1 hr0 hT0 hx0 hb0 hKF hKT;obtain⟨i0,i1⟩:=HS.out.kf.c2;obtain⟨y0,y1⟩:=HS.out.k0.c2;have v0:=HS.out.k0.fz 0;have v1:=HS.out.k0.fz 1;have hd1:KF≠K0:=by have:=HS.out.h1;have:=HS.out.h2;omega
  have hd2:K0≠KF:=by omega
  have hF1:((F.1:Int)==0)=false:=by rw[beq_eq_false_iff_ne];omega
  have hF2:((F.1:Int)!=0)=true:=by simpa using hF1
  clear hF0;go_wp2;go_region
  all_goals
   go_wp2;refine bodyPost_ret (v:=.tuple #[.slice none 0 0,.agg #[.int .i64 (F.1:Int),.int .i64 ((s.length-F.2:Nat):Int)]]) (by simp[results,Tryz.results170,go_sem,y0,y1]) rfl ?_;rw[HLI.out];exact⟨none,0,rfl,(HS.out.fr.box HS.out.h0 (by have:=HS.out.hb;have:=HS.out.h0;omega) _ _).drew⟩
 | ok r =>
  obtain⟨⟨t,wr⟩,l'⟩:=r;obtain⟨rfl,⟨q,hq,hl',hr3⟩,hf3⟩:=hres;simp only at hl';subst hl';have hlf:=lscl_leaf hsc (by rw[List.length_drop];omega);simp only at hlf;obtain⟨k,tx,ta,tk⟩:=t;obtain⟨hlf1,hlf2,hlf3,hlf4⟩:=hlf;simp only[Tr.mk.injEq,true_and]at hlf1;obtain⟨rfl,rfl⟩:=hlf1;unfold f0 lfV;have hS:=S3.new (hx0.fr hf3 hlt) ((Fr.of hb0 hlt).trans hf3) hlt (Nat.le_refl _) #[.int .i64 k,.string (mk tx),.string (mk []),.slice none 0 0] #[.int .i64 0,.int .i64 0];go_upto_region 3 with fail
  generalize hw4:(w3.alloc (.cells #[.int .i64 k,.string (mk tx),.string (mk []),.slice none 0 0] 24)).alloc (.cells #[.int .i64 0,.int .i64 0] 33)=w4 at hS |-;have hKTl:w3.heap.size<w4.heap.size:=hS.kt.lt;generalize hKF:w3.heap.size+1=KF at hS |-;generalize hKT:w3.heap.size=KT at hS hKTl |-;generalize hK0:w.heap.size=K0 at hS |-;have HS:Hid (S3 w w4 b K0 KT KF #[.int .i64 k,.string (mk tx),.string (mk []),.slice none 0 0] #[.int .i64 0,.int .i64 0]):=hS;have HK0:Hid (w.heap.size<=K0):=Nat.le_of_eq hK0;have HKW:Hid (K0<W.heap.size):=by rw[<-hK0];exact hx0.lt
  have HSW:Hid (w.heap.size<=W.heap.size):=hb0.size;clear hK0 hS;have hb4:Below w3.heap.size w3 w4:=by rw[<-hw4];exact(below_alloc _ _).trans ((below_alloc _ _).mono (by simp))
  have HR4:Hid (Rd w4 b s q dp):=hr3.later hb4;have HT4:Hid (TbB b w4):=(hT0.fr hf3).later hb4;clear hw4 hW' hW hf3 HSC c1 hr0 hT0 hx0 hb0 hr3 hb4 hKF hKT;have c1:=HR4.out.c1;obtain⟨i0,i1⟩:=HS.out.kf.c2;obtain⟨y0,y1⟩:=HS.out.k0.c2;have v0:=HS.out.k0.fz 0;have v1:=HS.out.k0.fz 1;have hd1:KF≠K0:=by have:=HS.out.h1;have:=HS.out.h2;omega
  have hd2:K0≠KF:=by omega
  by_cases hqp:q=p
  ·have HLI:Hid (lentry vf (s.drop p)=.error (stands (gaps (s.drop q)))):=by unfold lentry;rw[hsc,bnd_ok];simp only;rw[if_pos (.inl (by rw[hqp]))];exact rfl
   have HWR:Hid (Calls Tryz.prog 187 #[.pointer (some ⟨b,0,none⟩)] w4 fun e w'=>e=.returned (fv s.length (stands (gaps (s.drop q))))/\Hid (S3 w w' b K0 KT KF #[.int .i64 k,.string (mk tx),.string (mk []),.slice none 0 0] #[.int .i64 0,.int .i64 0])):=(wrong_any HR4.out hq hs).mono (fun e w' h=>⟨h.1,HS.out.later h.2⟩);generalize stands (gaps (s.drop q))=F at *;subst hqp;go_wp2_with fail;refine HWR.out.mono ?_;rintro e w6 ⟨rfl,HS6⟩;unfold fv;obtain⟨i0b,i1b⟩:=HS6.out.kf.c2;obtain⟨y0b,y1b⟩:=HS6.out.k0.c2;have v0b:=HS6.out.k0.fz 0;have v1b:=HS6.out.k0.fz 1;have hd1b:KF≠K0:=by have:=HS6.out.h1;have:=HS6.out.h2;omega
   have hd2b:K0≠KF:=by omega
   go_wp2;refine bodyPost_ret (v:=.tuple #[.slice none 0 0,.agg #[.int .i64 (F.1:Int),.int .i64 ((s.length-F.2:Nat):Int)]]) (by simp[results,Tryz.results170,go_sem,y0b,y1b]) rfl ?_;rw[HLI.out];exact⟨none,0,rfl,(HS6.out.fr.box HS6.out.h0 (by have:=HS6.out.hb;have:=HS6.out.h0;omega) _ _)⟩
  ·have hqe:((q:Int)==(p:Int))=false:=by rw[beq_eq_false_iff_ne];omega
   have HTC:Hid (Calls Tryz.prog 188 #[.pointer (some ⟨b,0,none⟩)] w4 fun e w'=>ColRes b s q dp w4 (colon (gaps (s.drop q))) e w'):=takesColon_any HR4.out hq hs;have hlne: ¬ (s.drop q).length=(s.drop p).length:=by rw[List.length_drop,List.length_drop];omega
   have HLE:Hid (lentry vf (s.drop p)=if colon (gaps (s.drop q))=false then .error (stands (gaps (s.drop q)))else bnd (vf ((gaps (s.drop q)).drop 1)) fun x=>.ok ([⟨k,tx,[],[]⟩,x.1],x.2)):=by
    unfold lentry;rw[hsc,bnd_ok];simp only;by_cases hc:colon (gaps (s.drop q))=false
    ·rw[if_pos (.inr hc),if_pos hc];exact rfl
    ·rw[if_neg (fun h=>h.elim hlne hc),if_neg hc];exact rfl
   have hcn:colon (gaps (s.drop q))=true->nx s q+1<=s.length:=fun hc=>by
    have h1:=gaps_nx s hq;have h2:hd (gaps (s.drop q))=58:=by unfold colon at hc;simp at hc;exact hc.1
    have:=(hd_ne (l:=gaps (s.drop q)) (by rw[h2];decide)).2;omega
   have hdr:s.drop (nx s q+1)=(gaps (s.drop q)).drop 1:=by rw[<-List.drop_drop,drop_nx s hq]
   rw[<-hdr]at HLE;clear hqp hlne hdr hsc;cases hco:colon (gaps (s.drop q))
   ·rw[hco]at HTC HLE;have HLI:Hid (lentry vf (s.drop p)=.error (stands (gaps (s.drop q)))):=HLE.out;clear HLE hco hcn;go_wp2_with fail;refine HTC.out.mono ?_;rintro e w5 ⟨rfl,hf5,hr5⟩;have HR5:Hid (Rd w5 b s q dp):=hr5;have HS5:Hid (S3 w w5 b K0 KT KF #[.int .i64 k,.string (mk tx),.string (mk []),.slice none 0 0] #[.int .i64 0,.int .i64 0]):=HS.out.step hf5;clear hr5 hf5;have HWR:Hid (Calls Tryz.prog 187 #[.pointer (some ⟨b,0,none⟩)] w5 fun e w'=>e=.returned (fv s.length (stands (gaps (s.drop q))))/\Hid (S3 w w' b K0 KT KF #[.int .i64 k,.string (mk tx),.string (mk []),.slice none 0 0] #[.int .i64 0,.int .i64 0])):=(wrong_any HR5.out hq hs).mono (fun e w' h=>⟨h.1,HS5.out.later h.2⟩);generalize stands (gaps (s.drop q))=F at *;go_wp2_with fail;refine HWR.out.mono ?_;rintro e w6 ⟨rfl,HS6⟩;unfold fv;obtain⟨i0b,i1b⟩:=HS6.out.kf.c2;obtain⟨y0b,y1b⟩:=HS6.out.k0.c2;have v0b:=HS6.out.k0.fz 0;have v1b:=HS6.out.k0.fz 1;have hd1b:KF≠K0:=by have:=HS6.out.h1;have:=HS6.out.h2;omega
    have hd2b:K0≠KF:=by omega
    go_wp2;refine bodyPost_ret (v:=.tuple #[.slice none 0 0,.agg #[.int .i64 (F.1:Int),.int .i64 ((s.length-F.2:Nat):Int)]]) (by simp[results,Tryz.results170,go_sem,y0b,y1b]) rfl ?_;rw[HLI.out];exact⟨none,0,rfl,(HS6.out.fr.box HS6.out.h0 (by have:=HS6.out.hb;have:=HS6.out.h0;omega) _ _)⟩
   ·rw[hco]at HTC HLE;have hq1:=hcn hco;have HLV:Hid (lentry vf (s.drop p)=bnd (vf (s.drop (nx s q+1))) fun x=>.ok ([⟨k,tx,[],[]⟩,x.1],x.2)):=HLE.out;clear HLE hco hcn;go_wp2_with fail;refine HTC.out.mono ?_;rintro e w5 ⟨rfl,hf5,hr5⟩;replace hr5:Rd w5 b s (nx s q+1) dp:=hr5;have HS5:Hid (S3 w w5 b K0 KT KF #[.int .i64 k,.string (mk tx),.string (mk []),.slice none 0 0] #[.int .i64 0,.int .i64 0]):=HS.out.step hf5;have HVA:Hid (Calls Tryz.prog 108 #[.pointer (some ⟨b,0,none⟩),.bool true] w5 fun e w'=>ValRes b s dp w5 d (vf (s.drop (nx s q+1))) e w'):=hV w5 _ hr5 hq1 (HT4.out.fr hf5);have H45:Hid (w4.heap.size<=w5.heap.size):=hf5.size;clear hr5 hf5;go_wp2_with fail;refine HVA.out.mono ?_;intro e w6 hres;generalize hvf:vf (s.drop (nx s q+1))=r at hres HLV
    cases r with
    | error F =>
     obtain⟨v,t,ht,rfl,hf6⟩:=hres;obtain⟨k2,x2,a2,ad2,len2,cap2,rfl⟩:=ht.cells;have HS6:Hid (S3 w w6 b K0 KT KF #[.int .i64 k,.string (mk tx),.string (mk []),.slice none 0 0] #[.int .i64 0,.int .i64 0]):=HS5.out.step hf6;have HLI:Hid (lentry vf (s.drop p)=.error F):=HLV.out;unfold fv;clear ht hf6 HVA HS5 HLV hvf;have z0:w6.frozen? ⟨KF,0,none⟩=false:=HS6.out.kf.fz 0;have z1:w6.frozen? ⟨KF,1,none⟩=false:=HS6.out.kf.fz 1;obtain⟨z2,z3⟩:=HS6.out.kf.c2;have z4:KF<w6.heap.size:=HS6.out.kf.lt;have HS7:Hid (S3 w (((w6.setCell ⟨KF,0,none⟩ (.int .i64 (F.1:Int))).setCell ⟨KF,1,none⟩ (.int .i64 ((s.length-F.2:Nat):Int))).alloc (.cells #[.int .i64 k2,.string x2,.string a2,.slice ad2 len2 cap2] 24)) b K0 KT KF #[.int .i64 k,.string (mk tx),.string (mk []),.slice none 0 0] #[.int .i64 (F.1:Int),.int .i64 ((s.length-F.2:Nat):Int)]):=(HS6.out.setF (.int .i64 (F.1:Int)) (.int .i64 ((s.length-F.2:Nat):Int)) rfl).later (below_alloc _ _)
     have HX7:Hid (Bx (((w6.setCell ⟨KF,0,none⟩ (.int .i64 (F.1:Int))).setCell ⟨KF,1,none⟩ (.int .i64 ((s.length-F.2:Nat):Int))).alloc (.cells #[.int .i64 k2,.string x2,.string a2,.slice ad2 len2 cap2] 24)) w6.heap.size #[.int .i64 k2,.string x2,.string a2,.slice ad2 len2 cap2] 24):=by
      have:=Bx.new ((w6.setCell ⟨KF,0,none⟩ (.int .i64 (F.1:Int))).setCell ⟨KF,1,none⟩ (.int .i64 ((s.length-F.2:Nat):Int))) #[.int .i64 k2,.string x2,.string a2,.slice ad2 len2 cap2] 24;rw[World.size_setCell,World.size_setCell]at this;exact this
     go_wp2;generalize hw7:(((w6.setCell ⟨KF,0,none⟩ (.int .i64 (F.1:Int))).setCell ⟨KF,1,none⟩ (.int .i64 ((s.length-F.2:Nat):Int))).alloc (.cells #[.int .i64 k2,.string x2,.string a2,.slice ad2 len2 cap2] 24))=w7 at *;generalize hK2:w6.heap.size=K2 at HX7 |-;clear hw7 hK2 z0 z1 z2 z3 z4;obtain⟨i0c,i1c⟩:=HS7.out.kf.c2;obtain⟨y0c,y1c⟩:=HS7.out.k0.c2;have v0c:=HS7.out.k0.fz 0;have v1c:=HS7.out.k0.fz 1;have hd1c:KF≠K0:=by have:=HS7.out.h1;have:=HS7.out.h2;omega
     have hd2c:K0≠KF:=by omega
     obtain⟨t0,t1,t2,t3⟩:=HS7.out.kt.c4;obtain⟨s0,s1,s2,s3⟩:=HX7.out.c4;obtain⟨w8,hw8⟩:∃ w8,w7.alloc (.cells #[.int .i64 k,.string (mk tx),.string (mk []),.slice none 0 0,.int .i64 k2,.string x2,.string a2,.slice ad2 len2 cap2] 24)=w8:=⟨_,rfl⟩;have HB8:Hid (Below w7.heap.size w7 w8):=by rw[<-hw8];exact below_alloc _ _
     have HX8:Hid (Bx w8 w7.heap.size #[.int .i64 k,.string (mk tx),.string (mk []),.slice none 0 0,.int .i64 k2,.string x2,.string a2,.slice ad2 len2 cap2] 24):=by rw[<-hw8];exact Bx.new _ _ _
     have HS8:Hid (S3 w w8 b K0 KT KF #[.int .i64 k,.string (mk tx),.string (mk []),.slice none 0 0] #[.int .i64 (F.1:Int),.int .i64 ((s.length-F.2:Nat):Int)]):=HS7.out.later HB8.out;obtain⟨i0e,i1e⟩:=HS8.out.kf.c2;obtain⟨y0e,y1e⟩:=HS8.out.k0.c2;have v0e:=HS8.out.k0.fz 0;have v1e:=HS8.out.k0.fz 1;have hd1e:KF≠K0:=by have:=HS8.out.h1;have:=HS8.out.h2;omega
     have hd2e:K0≠KF:=by omega
     go_region
     all_goals
      go_wp2;refine bodyPost_ret (v:=.tuple #[.slice (some ⟨w7.heap.size,0,none⟩) 2 2,.agg #[.int .i64 (F.1:Int),.int .i64 ((s.length-F.2:Nat):Int)]]) (by simp[results,Tryz.results170,go_sem,y0e,y1e]) rfl ?_;rw[HLI.out];exact⟨_,2,rfl,(HS8.out.fr.box HS8.out.h0 (by have:=HS8.out.hb;have:=HS8.out.h0;omega) _ _).drew⟩
    | ok r =>
     obtain⟨t,l'⟩:=r;obtain⟨v,rfl,ht,⟨q2,hq2,hl2,hr6⟩,hf6⟩:=hres;simp only at ht hl2;subst hl2;obtain⟨k2,x2,a2,ad2,len2,cap2,rfl⟩:=ht.cells;have HS6:Hid (S3 w w6 b K0 KT KF #[.int .i64 k,.string (mk tx),.string (mk []),.slice none 0 0] #[.int .i64 0,.int .i64 0]):=HS5.out.step hf6;have HLI:Hid (lentry vf (s.drop p)=.ok ([⟨k,tx,[],[]⟩,t],s.drop q2)):=HLV.out;have HC5:Hid (KF<w5.heap.size/\K0<w5.heap.size/\w.heap.size<=w5.heap.size):=⟨HS5.out.kf.lt,HS5.out.k0.lt,HS5.out.fr.size⟩;have hbK:b<KF:=by have:=HS5.out.hb;have:=HS5.out.h0;have:=HS5.out.h1;have:=HS5.out.h2;omega
     unfold f0;have HT7:Hid (TrP w5.heap.size (((w6.setCell ⟨KF,0,none⟩ (.int .i64 0)).setCell ⟨KF,1,none⟩ (.int .i64 0)).alloc (.cells #[.int .i64 k2,.string x2,.string a2,.slice ad2 len2 cap2] 24)) d (.agg #[.int .i64 k2,.string x2,.string a2,.slice ad2 len2 cap2]) t):=((ht.set HC5.out.1).set HC5.out.1).later (below_alloc _ _);have HR7:Hid (Rd (((w6.setCell ⟨KF,0,none⟩ (.int .i64 0)).setCell ⟨KF,1,none⟩ (.int .i64 0)).alloc (.cells #[.int .i64 k2,.string x2,.string a2,.slice ad2 len2 cap2] 24)) b s q2 dp):=((hr6.other (by omega) _ _).other (by omega) _ _).later (below_alloc _ _);clear ht hf6 hr6 HVA HS5 HLV hvf;have z0:w6.frozen? ⟨KF,0,none⟩=false:=HS6.out.kf.fz 0;have z1:w6.frozen? ⟨KF,1,none⟩=false:=HS6.out.kf.fz 1;obtain⟨z2,z3⟩:=HS6.out.kf.c2;have z4:KF<w6.heap.size:=HS6.out.kf.lt;have HS7:Hid (S3 w (((w6.setCell ⟨KF,0,none⟩ (.int .i64 0)).setCell ⟨KF,1,none⟩ (.int .i64 0)).alloc (.cells #[.int .i64 k2,.string x2,.string a2,.slice ad2 len2 cap2] 24)) b K0 KT KF #[.int .i64 k,.string (mk tx),.string (mk []),.slice none 0 0] #[.int .i64 0,.int .i64 0]):=(HS6.out.setF (.int .i64 0) (.int .i64 0) rfl).later (below_alloc _ _)
     have HX7:Hid (Bx (((w6.setCell ⟨KF,0,none⟩ (.int .i64 0)).setCell ⟨KF,1,none⟩ (.int .i64 0)).alloc (.cells #[.int .i64 k2,.string x2,.string a2,.slice ad2 len2 cap2] 24)) w6.heap.size #[.int .i64 k2,.string x2,.string a2,.slice ad2 len2 cap2] 24):=by
      have:=Bx.new ((w6.setCell ⟨KF,0,none⟩ (.int .i64 0)).setCell ⟨KF,1,none⟩ (.int .i64 0)) #[.int .i64 k2,.string x2,.string a2,.slice ad2 len2 cap2] 24;rw[World.size_setCell,World.size_setCell]at this;exact this
     go_wp2;generalize hw7:(((w6.setCell ⟨KF,0,none⟩ (.int .i64 0)).setCell ⟨KF,1,none⟩ (.int .i64 0)).alloc (.cells #[.int .i64 k2,.string x2,.string a2,.slice ad2 len2 cap2] 24))=w7 at *;generalize hK2:w6.heap.size=K2 at HX7 |-;clear hw7 hK2 z0 z1 z2 z3 z4;obtain⟨i0c,i1c⟩:=HS7.out.kf.c2;obtain⟨y0c,y1c⟩:=HS7.out.k0.c2;have v0c:=HS7.out.k0.fz 0;have v1c:=HS7.out.k0.fz 1;have hd1c:KF≠K0:=by have:=HS7.out.h1;have:=HS7.out.h2;omega
     have hd2c:K0≠KF:=by omega
     obtain⟨t0,t1,t2,t3⟩:=HS7.out.kt.c4;obtain⟨s0,s1,s2,s3⟩:=HX7.out.c4;obtain⟨w8,hw8⟩:∃ w8,w7.alloc (.cells #[.int .i64 k,.string (mk tx),.string (mk []),.slice none 0 0,.int .i64 k2,.string x2,.string a2,.slice ad2 len2 cap2] 24)=w8:=⟨_,rfl⟩;have HB8:Hid (Below w7.heap.size w7 w8):=by rw[<-hw8];exact below_alloc _ _
     have HX8:Hid (Bx w8 w7.heap.size #[.int .i64 k,.string (mk tx),.string (mk []),.slice none 0 0,.int .i64 k2,.string x2,.string a2,.slice ad2 len2 cap2] 24):=by rw[<-hw8];exact Bx.new _ _ _
     have HS8:Hid (S3 w w8 b K0 KT KF #[.int .i64 k,.string (mk tx),.string (mk []),.slice none 0 0] #[.int .i64 0,.int .i64 0]):=HS7.out.later HB8.out;obtain⟨i0e,i1e⟩:=HS8.out.kf.c2;obtain⟨y0e,y1e⟩:=HS8.out.k0.c2;have v0e:=HS8.out.k0.fz 0;have v1e:=HS8.out.k0.fz 1;have hd1e:KF≠K0:=by have:=HS8.out.h1;have:=HS8.out.h2;omega
     have hd2e:K0≠KF:=by omega
     go_region
     all_goals
      go_wp2;refine bodyPost_ret (v:=.tuple #[.slice (some ⟨w7.heap.size,0,none⟩) 2 2,.agg #[.int .i64 0,.int .i64 0]]) (by simp[results,Tryz.results170,go_sem,y0e,y1e]) rfl ?_;rw[HLI.out];have hbK0:b<K0:=by have:=HS8.out.hb;have:=HS8.out.h0;omega
      have hKK:K0<w7.heap.size:=HS7.out.k0.lt
      have hkey:TrP w5.heap.size w8 d (.agg #[.int .i64 k,.string (mk tx),.string (mk []),.slice none 0 0]) ⟨k,tx,[],[]⟩:=by
       have:=TrP.leaf (c:=w5.heap.size) (w:=w8) k tx [] (by omega) hlf3 (by simp) (d-1);rw[show d-1+1=d by omega]at this;exact this
      have hkd:=(Kd.one hkey).app (Kd.one (HT7.out.later HB8.out));refine⟨w7.heap.size,2,#[.int .i64 k,.string (mk tx),.string (mk []),.slice none 0 0,.int .i64 k2,.string x2,.string a2,.slice ad2 len2 cap2].toList,rfl,rfl,by decide,?_,by have:=HK0.out;omega,?_,⟨q2,hq2,rfl,((HR7.out.later HB8.out).box (by omega) _ _).drew1⟩,(HS8.out.fr.box HS8.out.h0 (by have:=HS8.out.hb;have:=HS8.out.h0;omega) _ _).drew⟩
      ·exact(HX8.out.other (by omega) _ _).other (by omega) _ _
      ·exact(((hkd.set HC5.out.2.1).set HC5.out.2.1).mono HC5.out.2.2).drew1
end Flw
namespace Flw
open Utf Rws Pln
open Go.RowKit
set_option maxHeartbeats 4000000
variable {b p dp d C:Nat} {s:Ln} {w w1 w2:World} {vf:Ln->Ot (Tr × Ln)}
def BrkRes (b:Nat) (s:Ln) (dp:Nat) (w:World) (d:Nat) (r:Ot (List Tr × Ln)) (e:Ending) (w':World):Prop:=match r with
 | .ok x=>∃ (v:Value) (n:Nat) (xs:List Value),e=.returned (.tuple #[v,f0])/\w'.ownsRow w.heap.size 24 4 v n xs/\n=x.1.length/\Kd w.heap.size w' d xs x.1/\(∃ q,q<=s.length/\x.2=s.drop q/\Rd w' b s q dp)/\Fr b w w'
 | .error f=>e=.returned (.tuple #[.slice none 0 0,fv s.length f])/\Fr b w w'
theorem infoTree:(Tryz.prog.info? 24).map (fun i=>(i.zero,i.size,i.bytes))=some (some (.agg zT),4,64):=by kernel_rfl
theorem own_keep {v:Value} {n:Nat} {xs:List Value} (h:w.ownsRow C 24 4 v n xs) (hk:∀ j,C<=j->j<w.heap.size->w1.heap[j]?=w.heap[j]?):w1.ownsRow C 24 4 v n xs:=by
 refine⟨h.1,?_⟩;rcases h.2 with q | ⟨g,cap,cur,q,hb,hh,r⟩
 ·exact .inl q
 ·exact .inr ⟨g,cap,cur,q,hb,(hk g hb (Array.getElem?_eq_some_iff.1 hh).1).trans hh,r⟩
theorem own_down {C':Nat} {v:Value} {n:Nat} {xs:List Value} (h:w.ownsRow C 24 4 v n xs) (hC:C'<=C):w.ownsRow C' 24 4 v n xs:=by
 refine⟨h.1,?_⟩;rcases h.2 with q | ⟨g,cap,cur,q,hb,r⟩
 ·exact .inl q
 ·exact .inr ⟨g,cap,cur,q,Nat.le_trans hC hb,r⟩
theorem own_blk {v:Value} {n:Nat} {xs:List Value} (h:w.ownsRow C 24 4 v n xs) {k:Nat} (hk:v.ownBlock=some k):C<=k/\k<w.heap.size:=by
 rcases h.2 with ⟨rfl,_⟩ | ⟨g,cap,cur,rfl,hb,hh,_⟩
 ·cases hk
 ·cases hk;exact⟨hb,(Array.getElem?_eq_some_iff.1 hh).1⟩
def Out (C:Nat) (v:Value) (j:Nat):Prop:=C<=j/\∀ k,v.ownBlock=some k->j≠k
structure Bk (w0 w:World) (b:Nat) (s:Ln) (q dp d C K0:Nat) (v:Value) (m:Nat) (xs:List Value) (ks:List Tr):Prop where
 rd:Rd w b s q dp
 own:w.ownsRow C 24 4 v m xs
 kd:KdQ (Out C v) w d xs ks
 fr:Fr b w0 w
 k0:Bx w K0 zF 33
 hb:b<w0.heap.size
 h0:w0.heap.size<=K0
 h1:K0<C
 hc:C<=w.heap.size
variable {q q' K0 m:Nat} {v:Value} {xs:List Value} {ks:List Tr} {w0:World}
theorem Bk.step (h:Bk w0 w b s q dp d C K0 v m xs ks) (hr:Rd w1 b s q' dp) (hf:Fr b w w1):Bk w0 w1 b s q' dp d C K0 v m xs ks:=by
 have:=h.hb;have:=h.h0;have:=h.h1;exact⟨hr,own_keep h.own (fun j h1 h2=>hf.2 j (by omega) h2),h.kd.keep hf.size (fun j h1 h2=>hf.2 j (by have:=h1.1;omega) h2),h.fr.trans hf,h.k0.fr hf (by omega),h.hb,h.h0,h.h1,Nat.le_trans h.hc hf.size⟩
theorem Bk.later (h:Bk w0 w b s q dp d C K0 v m xs ks) (hb:Below w.heap.size w w1):Bk w0 w1 b s q dp d C K0 v m xs ks:=h.step (h.rd.later hb) (Fr.of hb h.rd.lt)
theorem Bk.drew (h:Bk w0 w b s q dp d C K0 v m xs ks) (n:Nat):Bk w0 (w.drewN n) b s q dp d C K0 v m xs ks:=h.later (below_drewN (Below.refl _ _) n)
theorem Bk.more (h:Bk w0 w b s q dp d C K0 v m xs ks) {v':Value} {m':Nat} {ys:List Value} {js:List Tr} (hown:w1.ownsRow C 24 4 v' m' (xs++ys)) (hg:w.grownBy w1 v.ownBlock) (hat:v'.ownBlock=v.ownBlock\/v'.ownBlock=some w.heap.size)
  (hk:KdQ (Out C v) w d ys js):Bk w0 w1 b s q dp d C K0 v' m' (xs++ys) (ks++js):=by
 have hb:=h.hb;have h0:=h.h0;have h1:=h.h1;have hfs:=h.fr.size;have hrow:∀ k,v.ownBlock=some k->C<=k:=fun k hk=>(own_blk h.own hk).1
 have hkeep:∀ j,j<w.heap.size->(∀ k,v.ownBlock=some k->j≠k)->w1.heap[j]?=w.heap[j]?:=fun j hj hne=>hg.block j hj (fun e=>hne j e.symm rfl)
 refine⟨(hkeep b (by omega) (fun k hk=>by have:=hrow k hk;omega)).trans h.rd,hown,?_,?_,(hkeep K0 h.k0.lt (fun k hk=>by have:=hrow k hk;omega)).trans h.k0,hb,h0,h1,Nat.le_trans h.hc hg.size⟩
 ·have k2:KdQ (fun j=>Out C v j/\j<w.heap.size) w d (xs++ys) (ks++js):=(h.kd.app hk).wide (fun j a c=>⟨a,c⟩);refine(k2.keep hg.size (fun j a _=>hkeep j a.2 a.1.2)).wide (fun j a _=>⟨a.1.1,fun k hk=> ?_⟩);rcases hat with e | e
  ·rw[e]at hk;exact a.1.2 k hk
  ·rw[e]at hk;cases hk;exact Nat.ne_of_lt a.2
 ·refine⟨⟨hg.os.trans h.fr.1.os,hg.tape.trans h.fr.1.tape,hg.output.trans h.fr.1.output,Nat.le_trans hfs hg.size,fun j hj=>(hkeep j (by omega) (fun k hk=>by have:=hrow k hk;omega)).trans (h.fr.1.block j hj)⟩,fun j hj1 hj2=>(hkeep j (by omega) (fun k hk=>by have:=hrow k hk;omega)).trans (h.fr.2 j hj1 hj2)⟩
theorem Bk.out (h:Bk w0 w b s q dp d C K0 v m xs ks) (x y:Value):Bk w0 w b s q dp d C K0 v m xs ks/\Rd ((w.setCell ⟨K0,0,none⟩ x).setCell ⟨K0,1,none⟩ y) b s q dp/\Fr b w0 ((w.setCell ⟨K0,0,none⟩ x).setCell ⟨K0,1,none⟩ y) /\
  ((w.setCell ⟨K0,0,none⟩ x).setCell ⟨K0,1,none⟩ y).ownsRow w0.heap.size 24 4 v m xs/\Kd w0.heap.size ((w.setCell ⟨K0,0,none⟩ x).setCell ⟨K0,1,none⟩ y) d xs ks:=by
 have hb:=h.hb;have h0:=h.h0;have h1:=h.h1
 have hk:∀ j,C<=j->j<w.heap.size->((w.setCell ⟨K0,0,none⟩ x).setCell ⟨K0,1,none⟩ y).heap[j]?=w.heap[j]?:=fun j hj _=>by
  rw[Below.heap_setCell _ _ _ _ (fun e=>by simp only at e;omega),Below.heap_setCell _ _ _ _ (fun e=>by simp only at e;omega)]
 exact⟨h,h.rd.box (by omega) x y,h.fr.box h0 (by omega) x y,own_down (own_keep h.own hk) (by omega),(h.kd.keep (by simp[World.setCell]) (fun j a c=>hk j a.1 c)).wide (fun j a _=>by have:=a.1;omega)⟩
theorem Bk.set2 (h:Bk w0 w b s q dp d C K0 v m xs ks) (k:Nat):Bk w0 (w.setCell ⟨b,2,none⟩ (.int .i64 (k:Int))) b s q k d C K0 v m xs ks:=by
 have hb:=h.hb;have h0:=h.h0;have h1:=h.h1;have hk:∀ j,j≠b->(w.setCell ⟨b,2,none⟩ (.int .i64 (k:Int))).heap[j]?=w.heap[j]?:=fun j hj=>Below.heap_setCell _ _ _ _ hj
 exact⟨h.rd.set2 k,own_keep h.own (fun j a _=>hk j (by omega)),h.kd.keep (by simp[World.setCell]) (fun j a _=>hk j (by have:=a.1;omega)),h.fr.set 2 _,(hk K0 (by omega)).trans h.k0,hb,h0,h1,by rw[World.size_setCell];exact h.hc⟩
theorem bracket_deep (ev pv:Value) (h:Rd w b s p 64) (hp:p<=s.length) (hs:s.length<=65536) :
  Calls Tryz.prog 168 #[.pointer (some ⟨b,0,none⟩),ev,pv] w fun e w'=>BrkRes b s 64 w d (.error (10,(gaps (s.drop p)).length)) e w':=by
 have hlt:=h.lt;have hb0:=below_alloc w (.cells zF 33);have hr0:=h.later hb0;have hx0:=Bx.new w zF 33;obtain⟨W,hW⟩:∃ W,w.alloc (.cells zF 33)=W:=⟨_,rfl⟩;rw[hW]at hb0 hr0 hx0;have hW':w.alloc (.cells #[.int .i64 0,.int .i64 0] 33)=W:=hW;have HN:Hid (Calls Tryz.prog 164 #[.pointer (some ⟨b,0,none⟩)] W fun e w'=>e=.returned (.int .i64 (nx s p:Nat))/\∃ n,w'=W.drewN n):=next_any hr0 hp hs;have c2:W.cell? ⟨b,2,none⟩=some (.int .i64 64):=hr0.c2;obtain⟨y0,y1⟩:=hx0.c2;have v0:=hx0.fz 0;have v1:=hx0.fz 1;have HF:Hid (∀ k,Fr b w (W.drewN k)):=fun k=>Fr.of (below_drewN hb0 k) hlt
 have hn:=nx_le s p;clear hW hx0 hr0 h hb0;go_enter Tryz.func168,Tryz.ntmps168;go_wp2_with fail;refine HN.out.mono ?_;rintro e w1 ⟨rfl,k1,rfl⟩;go_wp2;refine bodyPost_ret (v:=.tuple #[.slice none 0 0,.agg #[.int .i64 10,.int .i64 (nx s p:Nat)]]) (by simp[results,Tryz.results168,go_sem,y0,y1]) rfl ?_;refine⟨?_,((HF.out k1).box (Nat.le_refl _) hlt _ _)⟩;rw[gaps_nx s hp,fv_at 10 hn];rfl
theorem bracket_any (g:FuncId) (hcf:∀ (vs:Array Value) (w:World),(callFunc g vs).run Tryz.prog w=.ok (.enter g vs) w) (mp:Bool) (E:UInt8) (HE:Hid (endOf mp=E)) (hE0:E≠0) (HP:∀ (w:World) (p:Nat),Rd w b s p (dp+1)->p<=s.length->TbB b w->Calls Tryz.prog g #[.pointer (some ⟨b,0,none⟩)] w fun e w'=>PrtRes b s (dp+1) w d (lpart vf mp (s.drop p)) e w')
  (hbad:∀ l e,lpart vf mp l=.error e->e.1≠0) (hadv:∀ l,Adv l (vf l)) (h:Rd w b s p dp) (hp:p<=s.length) (hs:s.length<=65536) (hT:TbB b w) (hdp:dp<64) (hg:gaps (s.drop p)≠[]) :
  Calls Tryz.prog 168 #[.pointer (some ⟨b,0,none⟩),.string ⟨#[E]⟩,.func (.func g) #[.pointer (some ⟨b,0,none⟩)] #[]] w fun e w'=>BrkRes b s dp w d (lbr vf mp (gaps (s.drop p)).length ((gaps (s.drop p)).drop 1)) e w':=by
 obtain⟨R,HR0⟩:∃ R,Hid (R=lbr vf mp (gaps (s.drop p)).length ((gaps (s.drop p)).drop 1)):=⟨_,rfl⟩;rw[<-HR0.out];obtain⟨it,hi,hz0,hz1,hz2⟩:=info_parts infoTree;have hlt:=h.lt;have hb0:=below_alloc w (.cells zF 33);have hr0:=h.later hb0;have hx0:=Bx.new w zF 33;obtain⟨W,hW⟩:∃ W,w.alloc (.cells zF 33)=W:=⟨_,rfl⟩;rw[hW]at hb0 hr0 hx0;have hW':w.alloc (.cells #[.int .i64 0,.int .i64 0] 33)=W:=hW;have hgn:=gaps_nx s hp;have hn:=nx_le s p;have hgl:=List.length_pos_iff.2 hg;have HN:Hid (Calls Tryz.prog 164 #[.pointer (some ⟨b,0,none⟩)] W fun e w'=>e=.returned (.int .i64 (nx s p:Nat))/\∃ n,w'=W.drewN n):=next_any hr0 hp hs;go_enter Tryz.func168,Tryz.ntmps168;go_wp2_with fail;refine HN.out.mono ?_;rintro e w1 ⟨rfl,k1,rfl⟩;have c2:=hr0.c2;have c1:=hr0.c1;have z1:=hr0.fz 1;have z2:=hr0.fz 2;have hde:((dp:Int)==64)=false:=by rw[beq_eq_false_iff_ne];omega
 have hBK:Bk w (((W.drewN k1).setCell ⟨b,2,none⟩ (.int .i64 ((dp+1:Nat):Int))).setCell ⟨b,1,none⟩ (.int .i64 ((nx s p+1:Nat):Int))) b s (nx s p+1) (dp+1) d W.heap.size w.heap.size (.slice none 0 0) 0 [] [] :=
  ⟨((hr0.drew k1).set2 (dp+1)).set1 (nx s p+1),World.ownsRow_nil _ _ _ _,KdQ.nil d,((Fr.of (below_drewN hb0 k1) hlt).set 2 _).set 1 _,((hx0.drew k1).other (by omega) _ _).other (by omega) _ _,hlt,Nat.le_refl _,hx0.lt,by rw[World.size_setCell,World.size_setCell];exact Nat.le_refl _⟩
 go_wp2;rw[show ((dp:Int)+1)=((dp+1:Nat):Int) by omega,show ((nx s p:Nat):Int)+1=((nx s p+1:Nat):Int) by omega];generalize hw2:((W.drewN k1).setCell ⟨b,2,none⟩ (.int .i64 ((dp+1:Nat):Int))).setCell ⟨b,1,none⟩ (.int .i64 ((nx s p+1:Nat):Int))=W2 at hBK |-
 have HRE:Hid (R=bnd (lbr vf mp (gaps (s.drop p)).length (s.drop (nx s p+1))) fun y=>.ok ([]++y.1,y.2)):=by
  rw[HR0.out,<-List.drop_drop,drop_nx s hp];cases lbr vf mp (gaps (s.drop p)).length ((gaps (s.drop p)).drop 1)<;>exact rfl
 generalize hC:W.heap.size=C at hBK;generalize hK0:w.heap.size=K0 at hBK |-;have HBK:Hid (Bk w W2 b s (nx s p+1) (dp+1) d C K0 (.slice none 0 0) 0 [] []):=hBK;clear hw2 hW hW' HN hb0 hr0 hx0 c1 c2 z1 z2 hC hK0 hBK h;clear HR0
 go_loopw [9] (fun v wr=>∃ (q n m:Nat) (xs:List Value) (ks:List Tr),q<=s.length/\m<=2*q/\m=ks.length/\s.length-q<n/\Bk w wr b s q (dp+1) d C K0 v m xs ks/\R=bnd (lbr vf mp n (s.drop q)) fun y=>.ok (ks++y.1,y.2)) (fun _ wr=>s.length-plc b wr)
 case atStart=>exact⟨nx s p+1,_,0,[],[],by omega,by omega,rfl,by omega,HBK.out,HRE.out⟩
 case round =>
  clear HBK HRE;clear W2;obtain⟨q,n,m,xs,ks,hq,hm,hmk,hfu,hbk,hR⟩:=hrel;have HB:Hid (Bk w wr b s q (dp+1) d C K0 u9 m xs ks):=hbk;have HRR:Hid (R=bnd (lbr vf mp n (s.drop q)) fun y=>.ok (ks++y.1,y.2)):=hR;have HPL:Hid (plc b wr=q):=hbk.rd.plc;have HMK:Hid (m=ks.length):=hmk;clear hbk hR hmk;obtain⟨n',rfl⟩:∃ n',n=n'+1:=⟨n-1,by omega⟩;by_cases hend:hd (gaps (s.drop q))=E
  ·have HV:Hid (R=.ok (ks,(gaps (s.drop q)).drop 1)):=by
    have:=HRR.out;unfold lbr at this;rw[if_pos (show hd (gaps (s.drop q))=endOf mp from hend.trans HE.out.symm),bnd_ok]at this;simp only[List.append_nil]at this;exact this
   have HTY:Hid (Calls Tryz.prog 135 #[.pointer (some ⟨b,0,none⟩),.string ⟨#[E]⟩] wr fun e w'=>e=.returned (.bool true)/\Hid (Bk w w' b s (nx s q+1) (dp+1) d C K0 u9 m xs ks)) :=
    (takes_yes [E] HB.out.rd hq hs (by simp) (by rw[see_hd s q hE0];simpa using hend)).mono (fun e w' h=>⟨h.1,HB.out.step h.2.1 h.2.2⟩)
   have hq1:nx s q+1<=s.length:=by
    have h1:=gaps_nx s hq;have:=(hd_ne (l:=gaps (s.drop q)) (by rw[hend];exact hE0)).2;omega
   have hdr:s.drop (nx s q+1)=(gaps (s.drop q)).drop 1:=by rw[<-List.drop_drop,drop_nx s hq]
   rw[<-hdr]at HV;clear HB HRR hdr hend;go_wp2_with fail;refine HTY.out.mono ?_;rintro e w3 ⟨rfl,HB3⟩;clear HTY;have c2:=HB3.out.rd.c2;have z2:=HB3.out.rd.fz 2;have HB4:=HB3.out.set2 dp;obtain⟨w4,hw4⟩:∃ w4,w3.setCell ⟨b,2,none⟩ (.int .i64 (dp:Int))=w4:=⟨_,rfl⟩;rw[hw4]at HB4;obtain⟨y0,y1⟩:=HB4.k0.c2;have v0:=HB4.k0.fz 0;have v1:=HB4.k0.fz 1;have HB4:Hid (Bk w w4 b s (nx s q+1) dp d C K0 u9 m xs ks):=HB4;have hdm:((dp+1:Nat):Int)-1=(dp:Int):=by omega
   rw[Int.natCast_add]at c2 hdm;clear HB3;go_wp2;refine bodyPost_ret (v:=.tuple #[u9,.agg #[.int .i64 0,.int .i64 0]]) (by simp[results,Tryz.results168,go_sem,y0,y1]) rfl ?_;rw[HV.out];obtain⟨o0,o1,o2,o3,o4⟩:=HB4.out.out (.int .i64 0) (.int .i64 0);exact⟨u9,m,xs,rfl,o3,HMK.out,o4,⟨nx s q+1,hq1,rfl,o1⟩,o2⟩
  ·have HRS:Hid (R=bnd (lpart vf mp (s.drop q)) fun x=>if hd (gaps x.2)=44 then bnd (lbr vf mp n' ((gaps x.2).drop 1)) (fun y=>.ok (ks++(x.1++y.1),y.2))else if hd (gaps x.2)=E then .ok (ks++x.1,(gaps x.2).drop 1)else .error (stands (gaps x.2))):=by
    have:=HRR.out;unfold lbr at this;rw[if_neg (show ¬ hd (gaps (s.drop q))=endOf mp from fun e=>hend (e.trans HE.out)),bnd_bnd]at this;rw[this]
    cases lpart vf mp (s.drop q)with
    | error e=>exact rfl
    | ok x =>
     simp only[bnd_ok];by_cases c1:hd (gaps x.2)=44
     ·rw[if_pos c1,if_pos c1,bnd_bnd];exact rfl
     ·rw[if_neg c1,if_neg c1];by_cases c2:hd (gaps x.2)=E
      ·rw[if_pos (show hd (gaps x.2)=endOf mp from c2.trans HE.out.symm),if_pos c2];exact rfl
      ·rw[if_neg (show ¬ hd (gaps x.2)=endOf mp from fun e=>c2 (e.trans HE.out)),if_neg c2];exact rfl
   have HTN:Hid (Calls Tryz.prog 135 #[.pointer (some ⟨b,0,none⟩),.string ⟨#[E]⟩] wr fun e w'=>e=.returned (.bool false)/\∃ n,w'=wr.drewN n) :=
    takes_no [E] HB.out.rd hq hs (by simp) (by rw[see_hd s q hE0];simpa using hend)
   have HPA:Hid (∀ k,Calls Tryz.prog g #[.pointer (some ⟨b,0,none⟩)] (wr.drewN k) fun e w'=>PrtRes b s (dp+1) (wr.drewN k) d (lpart vf mp (s.drop q)) e w'):=fun k=>HP _ q (HB.out.rd.drew k) hq (hT.fr (HB.out.drew k).fr)
   clear HRR hend;go_wp2_with fail;refine HTN.out.mono ?_;rintro e w2 ⟨rfl,k2,rfl⟩;go_wp2_with fail;refine(HPA.out k2).mono ?_;intro e w3 hres;have hbd:=hbad (s.drop q);have hav:=lpart_adv hadv mp (s.drop q);generalize hlp:lpart vf mp (s.drop q)=r at hres HRS hbd hav
   cases r with
   | error F =>
    obtain⟨ad,mm,rfl,hf3⟩:=hres;have hF0:=hbd F rfl;have HV:Hid (R=.error F):=HRS.out;have hK3:=(HB.out.drew k2).k0.fr hf3 (by have:=HB.out.hb;have:=HB.out.h0;omega);have HF3:Hid (Fr b w w3):=(HB.out.drew k2).fr.trans hf3;have HKK:Hid (b<w.heap.size/\w.heap.size<=K0):=⟨HB.out.hb,HB.out.h0⟩;have hb4:=below_alloc w3 (.cells #[.int .i64 (F.1:Int),.int .i64 ((s.length-F.2:Nat):Int)] 33);have hx4:=Bx.new w3 #[.int .i64 (F.1:Int),.int .i64 ((s.length-F.2:Nat):Int)] 33;have hK4:=hK3.later hb4;have hkf:K0<w3.heap.size:=hK3.lt;unfold fv;clear HB HTN HPA hlp hbd hav HRS hf3 hK3;go_upto_region 9 with fail
    generalize w3.alloc (.cells #[.int .i64 (F.1:Int),.int .i64 ((s.length-F.2:Nat):Int)] 33)=w4 at hb4 hx4 hK4 |-;have HF4:Hid (Fr b w w4):=HF3.out.trans (Fr.of hb4 (by have:=HF3.out.size;have:=HKK.out;omega));generalize w3.heap.size=KF at hx4 hkf |-;obtain⟨i0,i1⟩:=hx4.c2;obtain⟨y0,y1⟩:=hK4.c2;have v0:=hK4.fz 0;have v1:=hK4.fz 1;have hd1:KF≠K0:=by omega
    have hd2:K0≠KF:=by omega
    have hF2:((F.1:Int)!=0)=true:=by simpa using hF0
    clear hb4 hx4 hK4;go_wp2;go_region
    all_goals
     go_wp2;refine bodyPost_ret (v:=.tuple #[.slice none 0 0,.agg #[.int .i64 (F.1:Int),.int .i64 ((s.length-F.2:Nat):Int)]]) (by simp[results,Tryz.results168,go_sem,y0,y1]) rfl ?_;rw[HV.out];exact⟨rfl,(HF4.out.box HKK.out.2 (by have:=HKK.out;omega) _ _).drew⟩
   | ok x =>
    obtain⟨js,l2⟩:=x;obtain⟨g,m2,ys,rfl,hm2,hm3,hxg,hgs,hkd,⟨q2,hq2,hl2,hr3⟩,hf3⟩:=hres;simp only at hm2 hkd hl2;subst hl2;have HM2:Hid (m2=js.length):=hm2;clear hm2;have hlt2:=hav _ rfl;simp only[List.length_drop]at hlt2;have hqq:q<q2:=by omega
    have HB3:Hid (Bk w w3 b s q2 (dp+1) d C K0 u9 m xs ks):=(HB.out.drew k2).step hr3 hf3;have HOY:Hid (KdQ (Out C u9) w3 d ys js):=KdQ.wide hkd (fun j a _=>⟨Nat.le_trans HB.out.hc a,fun k hk=>by have h1:=(own_blk HB.out.own hk).2;have h2:wr.heap.size<=j:=a;omega⟩);have hb4:=below_alloc w3 (.cells #[.int .i64 0,.int .i64 0] 33);have hx4:=Bx.new w3 #[.int .i64 0,.int .i64 0] 33;have hB4:=HB3.out.later hb4;have hG4:=hxg.later hb4;have hY4:=HOY.out.later hb4;unfold f0;go_upto_region 9 with fail
    generalize w3.alloc (.cells #[.int .i64 0,.int .i64 0] 33)=w4 at hb4 hx4 hB4 hG4 hY4 |-;have HB4:Hid (Bk w w4 b s q2 (dp+1) d C K0 u9 m xs ks):=hB4;have HY4:Hid (KdQ (Out C u9) w4 d ys js):=hY4;have HG4:Hid (Bx w4 g ys.toArray 24):=hG4;have i0:w4.cell? ⟨w3.heap.size,0,none⟩=some (.int .i64 0):=hx4.cell 0;generalize w3.heap.size=KF at i0 |-;clear hb4 hx4 hB4 hY4 hG4 HB3 HOY hxg hkd hf3 hr3 HB HTN HPA hlp hbd hav;have hbs:(m+m2)*64<=140737488355328:=by omega
    have hml:m+m2<=maxLen:=by unfold maxLen;omega
    have hyl:ys.length=m2*4:=by rw[HY4.out.1,HM2.out]
    have hyc:∀ j u,ys[j]?=some u->w4.cell? ((⟨g,0,none⟩:Addr).add j)=some u:=fun j u hj=>by
     have e:(⟨g,0,none⟩:Addr).add j=⟨g,j,none⟩:=by simp[Addr.add];exact fun h=>h.symm
     rw[e,HG4.out.cell j];simpa using hj
    go_wp2_with (at_builtin;refine wpList_append_own_at _ rfl _ _ 22 rfl C 24 it (.agg zT) 4 64 Tryz.underlying22 hi hz0 hz1 hz2 rfl (by decide) u9 m xs rfl HB4.out.own ⟨g,0,none⟩ m2 m2 ys rfl hyl hyc HY4.out.2.1 hml hbs HB4.out.hc ?_);intro v' w5 hown5 hgr5 _ hat5;have HB5:Hid (Bk w w5 b s q2 (dp+1) d C K0 v' (m+m2) (xs++ys) (ks++js)):=HB4.out.more hown5 hgr5 hat5 HY4.out;clear HB4 HY4 HG4 hown5 hgr5 hat5 hyc i0;have hml2:m+m2=(ks++js).length:=by rw[List.length_append,<-HMK.out,<-HM2.out]
    have HML:Hid (m+m2=(ks++js).length):=hml2;have HRX:Hid (R=if hd (gaps (s.drop q2))=44 then bnd (lbr vf mp n' ((gaps (s.drop q2)).drop 1)) (fun y=>.ok (ks++(js++y.1),y.2))else if hd (gaps (s.drop q2))=E then .ok (ks++js,(gaps (s.drop q2)).drop 1)else .error (stands (gaps (s.drop q2)))):=HRS.out;clear HRS hml2 hyl hbs hml HM2 HMK;by_cases c44:hd (gaps (s.drop q2))=44
    ·have hq3:nx s q2+1<=s.length:=by
      have h1:=gaps_nx s hq2;have:=(hd_ne (l:=gaps (s.drop q2)) (by rw[c44];decide)).2;omega
     have hge:=nx_ge s hq2
     have HV:Hid (R=bnd (lbr vf mp n' (s.drop (nx s q2+1))) fun y=>.ok ((ks++js)++y.1,y.2)):=by
      show R=_;have:=HRX.out;rw[if_pos c44,<-drop_nx s hq2,List.drop_drop]at this;rw[this];simp only[List.append_assoc]
     have HTY:Hid (Calls Tryz.prog 135 #[.pointer (some ⟨b,0,none⟩),.string ⟨#[44]⟩] w5 fun e w'=>e=.returned (.bool true)/\Hid (Bk w w' b s (nx s q2+1) (dp+1) d C K0 v' (m+m2) (xs++ys) (ks++js))) :=
      (takes_yes [44] HB5.out.rd hq2 hs (by decide) (by rw[see_hd s q2 (by decide)];simpa using c44)).mono (fun e w' h=>⟨h.1,HB5.out.step h.2.1 h.2.2⟩)
     clear HRX HB5 c44;go_wp2_with (go_at_call 135;refine HTY.out.mono ?_;rintro e w6 ⟨rfl,HB6⟩);go_roundw
     case rel =>
      (repeat apply Exists.intro)
      exact⟨⟨nx s q2+1,n',m+m2,xs++ys,ks++js,hq3,by omega,HML.out,by omega,HB6.out,HV.out⟩,rfl⟩
     case measure=>rw[HPL.out,HB6.out.rd.plc];omega
    ·have HTN:Hid (Calls Tryz.prog 135 #[.pointer (some ⟨b,0,none⟩),.string ⟨#[44]⟩] w5 fun e w'=>e=.returned (.bool false)/\∃ n,w'=w5.drewN n) :=
      takes_no [44] HB5.out.rd hq2 hs (by decide) (by rw[see_hd s q2 (by decide)];simpa using c44)
     by_cases ce:hd (gaps (s.drop q2))=E
     ·have HV:Hid (R=bnd (lbr vf mp n' (s.drop q2)) fun y=>.ok ((ks++js)++y.1,y.2)):=by
       show R=_;have:=HRX.out;rw[if_neg c44,if_pos ce]at this;have hne:=(hd_ne (l:=gaps (s.drop q2)) (by rw[ce];exact hE0)).2;have h1:=gaps_nx s hq2;obtain⟨n2,rfl⟩:∃ n2,n'=n2+1:=⟨n'-1,by omega⟩;rw[this];unfold lbr;rw[if_pos (show hd (gaps (s.drop q2))=endOf mp from ce.trans HE.out.symm),bnd_ok];simp only[List.append_nil]
      have HSE:Hid (∀ k,Calls Tryz.prog 163 #[.pointer (some ⟨b,0,none⟩),.string ⟨#[E]⟩] (w5.drewN k) fun e w'=>e=.returned (.bool true)/\∃ n,w'=(w5.drewN k).drewN n):=fun k=>by
       have:=sees_any [E] (HB5.out.rd.drew k) hq2 hs (by simp);rw[see_hd s q2 hE0,decide_eq_true ce]at this;exact this
      clear HRX c44 ce;go_wp2_with (first | (go_at_call 135;refine HTN.out.mono ?_;rintro e w6 ⟨rfl,k5,rfl⟩) | (go_at_call 163;refine(HSE.out _).mono ?_;rintro e w6 ⟨rfl,k6,rfl⟩));go_roundw
      case rel =>
       (repeat apply Exists.intro)
       exact⟨⟨q2,n',m+m2,xs++ys,ks++js,hq2,by omega,HML.out,by omega,HB5.out.drew _,HV.out⟩,rfl⟩
      case measure=>rw[HPL.out,(show plc b _=q2 from by first | exact(HB5.out.drew _).rd.plc | exact((HB5.out.drew _).drew _).rd.plc)];omega
     ·have HV:Hid (R=.error (stands (gaps (s.drop q2)))):=by
       have:=HRX.out;rw[if_neg c44,if_neg ce]at this;exact this
      have HSE:Hid (∀ k,Calls Tryz.prog 163 #[.pointer (some ⟨b,0,none⟩),.string ⟨#[E]⟩] (w5.drewN k) fun e w'=>e=.returned (.bool false)/\∃ n,w'=(w5.drewN k).drewN n):=fun k=>by
       have:=sees_any [E] (HB5.out.rd.drew k) hq2 hs (by simp);rw[see_hd s q2 hE0,decide_eq_false ce]at this;exact this
      have HWR:Hid (∀ k,Calls Tryz.prog 187 #[.pointer (some ⟨b,0,none⟩)] (w5.drewN k) fun e w'=>e=.returned (fv s.length (stands (gaps (s.drop q2))))/\Hid (Bk w w' b s q2 (dp+1) d C K0 v' (m+m2) (xs++ys) (ks++js))):=fun k=>(wrong_any (HB5.out.rd.drew k) hq2 hs).mono (fun e w' h=>⟨h.1,(HB5.out.drew k).later h.2⟩)
      generalize stands (gaps (s.drop q2))=F at *;clear HRX c44 ce HB5;go_wp2_with (first | (go_at_call 135;refine HTN.out.mono ?_;rintro e w6 ⟨rfl,k5,rfl⟩) | (go_at_call 163;refine(HSE.out _).mono ?_;rintro e w6 ⟨rfl,k6,rfl⟩));refine(HWR.out _).mono ?_;rintro e w7 ⟨rfl,HB7⟩;unfold fv;obtain⟨y0,y1⟩:=HB7.out.k0.c2;have v0:=HB7.out.k0.fz 0;have v1:=HB7.out.k0.fz 1;go_wp2;refine bodyPost_ret (v:=.tuple #[.slice none 0 0,.agg #[.int .i64 (F.1:Int),.int .i64 ((s.length-F.2:Nat):Int)]]) (by simp[results,Tryz.results168,go_sem,y0,y1]) rfl ?_;rw[HV.out];exact⟨rfl,(HB7.out.out _ _).2.2.1⟩
end Flw
namespace Flw
open Utf Rws Pln
open Go.RowKit
set_option maxHeartbeats 4000000
variable {b p dp d:Nat} {s:Ln} {w w1 w2:World}
def ConRes (b:Nat) (s:Ln) (dp:Nat) (w:World) (d:Nat) (r:Ot ((Tr × Ln) × Ln)) (e:Ending) (w':World):Prop:=match r with
 | .ok x=>∃ v,e=.returned (.tuple #[v,.string (mk x.1.2),f0])/\TrP w.heap.size w' d v x.1.1/\(∃ q,q<=s.length/\x.2=s.drop q/\Rd w' b s q dp)/\Fr b w w'
 | .error f=>∃ (v:Value) (t:Tr) (y:ByteArray),TrP w.heap.size w' 1 v t/\e=.returned (.tuple #[v,.string y,fv s.length f])/\Fr b w w'
def brk (inner:Option (Ln->Ot (Tr × Ln))) (map:Bool) (l:Ln):Ot (List Tr × Ln):=match inner with
 | none=>.error (10,(gaps l).length)
 | some v=>lbr v map (gaps l).length ((gaps l).drop 1)
def BrkOk (b:Nat) (s:Ln) (dp d:Nat) (inner:Option (Ln->Ot (Tr × Ln))):Prop:=∀ (w:World) (p:Nat),Rd w b s p dp->p<=s.length->TbB b w->gaps (s.drop p)≠[] ->
 Calls Tryz.prog 168 #[.pointer (some ⟨b,0,none⟩),.string ⟨#[93]⟩,.func (.func 169) #[.pointer (some ⟨b,0,none⟩)] #[]] w (fun e w'=>BrkRes b s dp w d (brk inner false (s.drop p)) e w') /\
 Calls Tryz.prog 168 #[.pointer (some ⟨b,0,none⟩),.string ⟨#[125]⟩,.func (.func 170) #[.pointer (some ⟨b,0,none⟩)] #[]] w (fun e w'=>BrkRes b s dp w d (brk inner true (s.drop p)) e w')
theorem lcont_brk (inner:Option (Ln->Ot (Tr × Ln))) (f map:Bool) (l:Ln) (h:hd (gaps l)=if map=true then 123 else 91):lcont inner f l=bnd (brk inner map l) fun x=>.ok ((⟨kindOf map,[],[],x.1⟩,[]),x.2):=by
 unfold lcont brk;have hm:(hd (gaps l)==123)=map:=by rw[h];cases map<;>rfl
 rw[if_pos (by rw[h];cases map<;>simp),hm];cases inner<;>rfl
theorem TrP.drew1 {c:Nat} {v:Value} {t:Tr} (h:TrP c w d v t):TrP c w.drew d v t:=h.later ((Below.refl _ _).drew)
theorem content_any {inner:Option (Ln->Ot (Tr × Ln))} (f:Bool) (hbr:BrkOk b s dp d inner) (h:Rd w b s p dp) (hp:p<=s.length) (hs:s.length<=65536) (hT:TbB b w) :
  Calls Tryz.prog 138 #[.pointer (some ⟨b,0,none⟩),.bool f] w fun e w'=>ConRes b s dp w (d+1) (lcont inner f (s.drop p)) e w':=by
 have hS:=S2.new w h.lt;have hr:=h.two;have hT0:=hT.fr hS.fr;have hC1:=hS.k0.lt;have hC2:=hS.k1.lt;have hC3:=hS.fr.size;obtain⟨W,hW⟩:∃ W,(w.alloc (.cells zT 24)).alloc (.cells zF 33)=W:=⟨_,rfl⟩;rw[hW]at hS hr hT0 hC1 hC2 hC3
 have HSE:Hid (∀ (c:UInt8) k,c=91\/c=123->Calls Tryz.prog 163 #[.pointer (some ⟨b,0,none⟩),.string ⟨#[c]⟩] (W.drewN k) fun e w'=>e=.returned (.bool (decide (hd (gaps (s.drop p))=c)))/\∃ n,w'=(W.drewN k).drewN n):=fun c k hc=>by
  have:=sees_any [c] (hr.drew k) hp hs (by simp);rw[see_hd s p (by rcases hc with rfl | rfl<;>decide)]at this;exact this
 have HSC:Hid (∀ k,Calls Tryz.prog 171 #[.pointer (some ⟨b,0,none⟩),.bool f] (W.drewN k) fun e w'=>SclRes b s dp (W.drewN k) (lscl f (s.drop p)) e w'):=fun k=>scalar_any f (hr.drew k) hp hs (hT0.later (below_drewN (Below.refl _ _) k))
 go_enter Tryz.func138,Tryz.ntmps138;go_wp2_with fail;change Calls _ _ _ ((w.alloc (.cells zT 24)).alloc (.cells zF 33)) _;rw[hW];generalize hK1:w.heap.size+1=K1 at hS hC2 |-;generalize hK0:w.heap.size=K0 at hS hC1 |-;have HKC:Hid (K0<W.heap.size/\K1<W.heap.size/\w.heap.size<=W.heap.size):=⟨hC1,hC2,by rw[hK0];rw[hK0]at hC3;exact hC3⟩;clear hK0 hK1 hW hC1 hC2 hC3;by_cases c1:hd (gaps (s.drop p))=91
 ·have hgne:gaps (s.drop p)≠[]:=ne_of_hd c1 (by decide);have HL:Hid (lcont inner f (s.drop p)=bnd (brk inner false (s.drop p)) fun x=>.ok ((⟨5,[],[],x.1⟩,[]),x.2)):=lcont_brk inner f false _ c1;refine(HSE.out 91 0 (.inl rfl)).mono ?_;rintro e w1 ⟨rfl,n1,rfl⟩;rw[decide_eq_true c1];have HBR:Hid (∀ k,Calls Tryz.prog 168 #[.pointer (some ⟨b,0,none⟩),.string ⟨#[93]⟩,.func (.func 169) #[.pointer (some ⟨b,0,none⟩)] #[]] (W.drewN k) fun e w'=>BrkRes b s dp (W.drewN k) d (brk inner false (s.drop p)) e w'):=fun k=>(hbr _ p (hr.drew k) hp (hT0.later (below_drewN (Below.refl _ _) k)) hgne).1
  go_wp2_with fail;refine(HBR.out _).mono ?_;intro e w3 hres;generalize hq:brk inner false (s.drop p)=r at hres HL
  cases r with
  | error F =>
   obtain⟨rfl,hf3⟩:=hres;unfold fv;have HS3:Hid (S2 w w3 b K0 K1):=(hS.drew _).step hf3;clear hf3;go_wp2;have hKF0:K0<w3.heap.size:=HS3.out.k0.lt;have hKF1:K1<w3.heap.size:=HS3.out.k1.lt;have hkf1:w3.heap.size≠K0:=by omega
   have hkf2:K0≠w3.heap.size:=by omega
   have hkf3:w3.heap.size≠K1:=by omega
   have hkf4:K1≠w3.heap.size:=by omega
   obtain⟨w4,hw4⟩:∃ w4,w3.alloc (.cells #[.int .i64 (F.1:Int),.int .i64 ((s.length-F.2:Nat):Int)] 33)=w4:=⟨_,rfl⟩;have hbw4:Below w3.heap.size w3 w4:=by rw[<-hw4];exact below_alloc _ _
   have hxw4:Bx w4 w3.heap.size #[.int .i64 (F.1:Int),.int .i64 ((s.length-F.2:Nat):Int)] 33:=by rw[<-hw4];exact Bx.new _ _ _
   obtain⟨f0_w4,f1_w4⟩:=hxw4.c2;rw[hw4];clear hw4;have HS4:Hid (S2 w w4 b K0 K1):=HS3.out.later hbw4;clear HS3 hbw4 hxw4;obtain⟨X0,X1,X2,X3,Y0,Y1,Z0,Z1,Z2,Z3,V0,V1⟩:=HS4.out.c;have hd10:K1≠K0:=by have:=HS4.out.h1;omega
   have hd01:K0≠K1:=by omega
   go_region
   all_goals
    go_wp2;have hO:=HS4.out.out (.int .i64 5) (.string ⟨#[]⟩) (.string ⟨#[]⟩) (.slice none 0 0) (.int .i64 (F.1:Int)) (.int .i64 ((s.length-F.2:Nat):Int));change bodyPost _ _ _ _ _ (fill6 w4 K0 K1 (.int .i64 5) (.string ⟨#[]⟩) (.string ⟨#[]⟩) (.slice none 0 0) (.int .i64 (F.1:Int)) (.int .i64 ((s.length-F.2:Nat):Int))).drew;generalize fill6 w4 K0 K1 (.int .i64 5) (.string ⟨#[]⟩) (.string ⟨#[]⟩) (.slice none 0 0) (.int .i64 (F.1:Int)) (.int .i64 ((s.length-F.2:Nat):Int))=WF at hO |-;obtain⟨o2,o3,o4⟩:=hO;have j0:WF.drew.cell? ⟨K0,0,none⟩=_:=o3.cell 0;have j1:WF.drew.cell? ⟨K0,1,none⟩=_:=o3.cell 1;have j2:WF.drew.cell? ⟨K0,2,none⟩=_:=o3.cell 2;have j3:WF.drew.cell? ⟨K0,3,none⟩=_:=o3.cell 3;have j4:WF.drew.cell? ⟨K1,0,none⟩=_:=o4.cell 0;have j5:WF.drew.cell? ⟨K1,1,none⟩=_:=o4.cell 1;replace o2:=o2.drew;refine bodyPost_ret (v:=.tuple #[.agg #[.int .i64 5,.string ⟨#[]⟩,.string ⟨#[]⟩,.slice none 0 0],.string ⟨#[]⟩,.agg #[.int .i64 (F.1:Int),.int .i64 ((s.length-F.2:Nat):Int)]]) (by simp[results,Tryz.results138,go_sem,j0,j1,j2,j3,j4,j5]) rfl ?_;rw[HL.out];exact⟨_,⟨5,[],[],[]⟩,_,TrP.leaf 5 [] [] (by decide) (by simp) (by simp) 0,rfl,o2⟩
  | ok x =>
   obtain⟨v,n,xs,rfl,hown,hnx,hkd,⟨q,hq2,hx2,hr3⟩,hf3⟩:=hres;obtain⟨ad,len,cap,rfl,htp⟩:=TrP.node hown hkd hnx 5 (by decide) [] (by simp);unfold f0;have HS3:Hid (S2 w w3 b K0 K1):=(hS.drew _).step hf3;have HX2:Hid (x.2=s.drop q):=hx2;have HR3:Hid (Rd w3 b s q dp):=hr3;have HTP3:Hid (TrP W.heap.size w3 (d+1) (.agg #[.int .i64 5,.string (mk []),.string (mk []),.slice ad len cap]) ⟨5,[],[],x.1⟩):=htp;clear hf3 hx2 hr3 htp hown hkd hnx;go_wp2;have hKF0:K0<w3.heap.size:=HS3.out.k0.lt;have hKF1:K1<w3.heap.size:=HS3.out.k1.lt;have hkf1:w3.heap.size≠K0:=by omega
   have hkf2:K0≠w3.heap.size:=by omega
   have hkf3:w3.heap.size≠K1:=by omega
   have hkf4:K1≠w3.heap.size:=by omega
   obtain⟨w4,hw4⟩:∃ w4,w3.alloc (.cells #[.int .i64 0,.int .i64 0] 33)=w4:=⟨_,rfl⟩;have hbw4:Below w3.heap.size w3 w4:=by rw[<-hw4];exact below_alloc _ _
   have hxw4:Bx w4 w3.heap.size #[.int .i64 0,.int .i64 0] 33:=by rw[<-hw4];exact Bx.new _ _ _
   obtain⟨f0_w4,f1_w4⟩:=hxw4.c2;rw[hw4];clear hw4;have HS4:Hid (S2 w w4 b K0 K1):=HS3.out.later hbw4;have HR4:Hid (Rd w4 b s q dp):=HR3.out.later hbw4;have HTP4:Hid (TrP W.heap.size w4 (d+1) (.agg #[.int .i64 5,.string (mk []),.string (mk []),.slice ad len cap]) ⟨5,[],[],x.1⟩):=HTP3.out.later hbw4;clear HS3 hbw4 hxw4 HR3 HTP3;obtain⟨X0,X1,X2,X3,Y0,Y1,Z0,Z1,Z2,Z3,V0,V1⟩:=HS4.out.c;have hd10:K1≠K0:=by have:=HS4.out.h1;omega
   have hd01:K0≠K1:=by omega
   have HTF:Hid (∀ x0 x1 x2 x3 y0 y1:Value,TrP w.heap.size (fill6 w4 K0 K1 x0 x1 x2 x3 y0 y1) (d+1) (.agg #[.int .i64 5,.string (mk []),.string (mk []),.slice ad len cap]) ⟨5,[],[],x.1⟩):=fun x0 x1 x2 x3 y0 y1 =>
    ((((((HTP4.out.set HKC.out.1).set HKC.out.1).set HKC.out.1).set HKC.out.1).set HKC.out.2.1).set HKC.out.2.1).mono HKC.out.2.2
   go_region
   all_goals
    go_wp2;have htf:=(HTF.out (.int .i64 5) (.string ⟨#[]⟩) (.string ⟨#[]⟩) (.slice ad len cap) (.int .i64 0) (.int .i64 0)).drew1;have hO:=HS4.out.out (.int .i64 5) (.string ⟨#[]⟩) (.string ⟨#[]⟩) (.slice ad len cap) (.int .i64 0) (.int .i64 0);have hrd:=HS4.out.rd HR4.out (.int .i64 5) (.string ⟨#[]⟩) (.string ⟨#[]⟩) (.slice ad len cap) (.int .i64 0) (.int .i64 0);change bodyPost _ _ _ _ _ (fill6 w4 K0 K1 (.int .i64 5) (.string ⟨#[]⟩) (.string ⟨#[]⟩) (.slice ad len cap) (.int .i64 0) (.int .i64 0)).drew;generalize fill6 w4 K0 K1 (.int .i64 5) (.string ⟨#[]⟩) (.string ⟨#[]⟩) (.slice ad len cap) (.int .i64 0) (.int .i64 0)=WF at hO hrd htf |-;obtain⟨o2,o3,o4⟩:=hO;have j0:WF.drew.cell? ⟨K0,0,none⟩=_:=o3.cell 0;have j1:WF.drew.cell? ⟨K0,1,none⟩=_:=o3.cell 1;have j2:WF.drew.cell? ⟨K0,2,none⟩=_:=o3.cell 2;have j3:WF.drew.cell? ⟨K0,3,none⟩=_:=o3.cell 3;have j4:WF.drew.cell? ⟨K1,0,none⟩=_:=o4.cell 0;have j5:WF.drew.cell? ⟨K1,1,none⟩=_:=o4.cell 1;replace hrd:=hrd.drew1;replace o2:=o2.drew;refine bodyPost_ret (v:=.tuple #[.agg #[.int .i64 5,.string ⟨#[]⟩,.string ⟨#[]⟩,.slice ad len cap],.string ⟨#[]⟩,.agg #[.int .i64 0,.int .i64 0]]) (by simp[results,Tryz.results138,go_sem,j0,j1,j2,j3,j4,j5]) rfl ?_;rw[HL.out];exact⟨_,rfl,htf,⟨q,hq2,HX2.out,hrd⟩,o2⟩
 by_cases c2:hd (gaps (s.drop p))=123
 ·have hgne:gaps (s.drop p)≠[]:=ne_of_hd c2 (by decide);have HL:Hid (lcont inner f (s.drop p)=bnd (brk inner true (s.drop p)) fun x=>.ok ((⟨6,[],[],x.1⟩,[]),x.2)):=lcont_brk inner f true _ c2;refine(HSE.out 91 0 (.inl rfl)).mono ?_;rintro e w1 ⟨rfl,n1,rfl⟩;rw[decide_eq_false c1];go_wp2_with fail;refine(HSE.out 123 _ (.inr rfl)).mono ?_;rintro e w1 ⟨rfl,n2,rfl⟩;rw[decide_eq_true c2,World.drewN_drewN];generalize n1+n2=n1;have HBR:Hid (∀ k,Calls Tryz.prog 168 #[.pointer (some ⟨b,0,none⟩),.string ⟨#[125]⟩,.func (.func 170) #[.pointer (some ⟨b,0,none⟩)] #[]] (W.drewN k) fun e w'=>BrkRes b s dp (W.drewN k) d (brk inner true (s.drop p)) e w'):=fun k=>(hbr _ p (hr.drew k) hp (hT0.later (below_drewN (Below.refl _ _) k)) hgne).2
  go_wp2_with fail;refine(HBR.out _).mono ?_;intro e w3 hres;generalize hq:brk inner true (s.drop p)=r at hres HL
  cases r with
  | error F =>
   obtain⟨rfl,hf3⟩:=hres;unfold fv;have HS3:Hid (S2 w w3 b K0 K1):=(hS.drew _).step hf3;clear hf3;go_wp2;have hKF0:K0<w3.heap.size:=HS3.out.k0.lt;have hKF1:K1<w3.heap.size:=HS3.out.k1.lt;have hkf1:w3.heap.size≠K0:=by omega
   have hkf2:K0≠w3.heap.size:=by omega
   have hkf3:w3.heap.size≠K1:=by omega
   have hkf4:K1≠w3.heap.size:=by omega
   obtain⟨w4,hw4⟩:∃ w4,w3.alloc (.cells #[.int .i64 (F.1:Int),.int .i64 ((s.length-F.2:Nat):Int)] 33)=w4:=⟨_,rfl⟩;have hbw4:Below w3.heap.size w3 w4:=by rw[<-hw4];exact below_alloc _ _
   have hxw4:Bx w4 w3.heap.size #[.int .i64 (F.1:Int),.int .i64 ((s.length-F.2:Nat):Int)] 33:=by rw[<-hw4];exact Bx.new _ _ _
   obtain⟨f0_w4,f1_w4⟩:=hxw4.c2;rw[hw4];clear hw4;have HS4:Hid (S2 w w4 b K0 K1):=HS3.out.later hbw4;clear HS3 hbw4 hxw4;obtain⟨X0,X1,X2,X3,Y0,Y1,Z0,Z1,Z2,Z3,V0,V1⟩:=HS4.out.c;have hd10:K1≠K0:=by have:=HS4.out.h1;omega
   have hd01:K0≠K1:=by omega
   go_region
   all_goals
    go_wp2;have hO:=HS4.out.out (.int .i64 6) (.string ⟨#[]⟩) (.string ⟨#[]⟩) (.slice none 0 0) (.int .i64 (F.1:Int)) (.int .i64 ((s.length-F.2:Nat):Int));change bodyPost _ _ _ _ _ (fill6 w4 K0 K1 (.int .i64 6) (.string ⟨#[]⟩) (.string ⟨#[]⟩) (.slice none 0 0) (.int .i64 (F.1:Int)) (.int .i64 ((s.length-F.2:Nat):Int))).drew;generalize fill6 w4 K0 K1 (.int .i64 6) (.string ⟨#[]⟩) (.string ⟨#[]⟩) (.slice none 0 0) (.int .i64 (F.1:Int)) (.int .i64 ((s.length-F.2:Nat):Int))=WF at hO |-;obtain⟨o2,o3,o4⟩:=hO;have j0:WF.drew.cell? ⟨K0,0,none⟩=_:=o3.cell 0;have j1:WF.drew.cell? ⟨K0,1,none⟩=_:=o3.cell 1;have j2:WF.drew.cell? ⟨K0,2,none⟩=_:=o3.cell 2;have j3:WF.drew.cell? ⟨K0,3,none⟩=_:=o3.cell 3;have j4:WF.drew.cell? ⟨K1,0,none⟩=_:=o4.cell 0;have j5:WF.drew.cell? ⟨K1,1,none⟩=_:=o4.cell 1;replace o2:=o2.drew;refine bodyPost_ret (v:=.tuple #[.agg #[.int .i64 6,.string ⟨#[]⟩,.string ⟨#[]⟩,.slice none 0 0],.string ⟨#[]⟩,.agg #[.int .i64 (F.1:Int),.int .i64 ((s.length-F.2:Nat):Int)]]) (by simp[results,Tryz.results138,go_sem,j0,j1,j2,j3,j4,j5]) rfl ?_;rw[HL.out];exact⟨_,⟨6,[],[],[]⟩,_,TrP.leaf 6 [] [] (by decide) (by simp) (by simp) 0,rfl,o2⟩
  | ok x =>
   obtain⟨v,n,xs,rfl,hown,hnx,hkd,⟨q,hq2,hx2,hr3⟩,hf3⟩:=hres;obtain⟨ad,len,cap,rfl,htp⟩:=TrP.node hown hkd hnx 6 (by decide) [] (by simp);unfold f0;have HS3:Hid (S2 w w3 b K0 K1):=(hS.drew _).step hf3;have HX2:Hid (x.2=s.drop q):=hx2;have HR3:Hid (Rd w3 b s q dp):=hr3;have HTP3:Hid (TrP W.heap.size w3 (d+1) (.agg #[.int .i64 6,.string (mk []),.string (mk []),.slice ad len cap]) ⟨6,[],[],x.1⟩):=htp;clear hf3 hx2 hr3 htp hown hkd hnx;go_wp2;have hKF0:K0<w3.heap.size:=HS3.out.k0.lt;have hKF1:K1<w3.heap.size:=HS3.out.k1.lt;have hkf1:w3.heap.size≠K0:=by omega
   have hkf2:K0≠w3.heap.size:=by omega
   have hkf3:w3.heap.size≠K1:=by omega
   have hkf4:K1≠w3.heap.size:=by omega
   obtain⟨w4,hw4⟩:∃ w4,w3.alloc (.cells #[.int .i64 0,.int .i64 0] 33)=w4:=⟨_,rfl⟩;have hbw4:Below w3.heap.size w3 w4:=by rw[<-hw4];exact below_alloc _ _
   have hxw4:Bx w4 w3.heap.size #[.int .i64 0,.int .i64 0] 33:=by rw[<-hw4];exact Bx.new _ _ _
   obtain⟨f0_w4,f1_w4⟩:=hxw4.c2;rw[hw4];clear hw4;have HS4:Hid (S2 w w4 b K0 K1):=HS3.out.later hbw4;have HR4:Hid (Rd w4 b s q dp):=HR3.out.later hbw4;have HTP4:Hid (TrP W.heap.size w4 (d+1) (.agg #[.int .i64 6,.string (mk []),.string (mk []),.slice ad len cap]) ⟨6,[],[],x.1⟩):=HTP3.out.later hbw4;clear HS3 hbw4 hxw4 HR3 HTP3;obtain⟨X0,X1,X2,X3,Y0,Y1,Z0,Z1,Z2,Z3,V0,V1⟩:=HS4.out.c;have hd10:K1≠K0:=by have:=HS4.out.h1;omega
   have hd01:K0≠K1:=by omega
   have HTF:Hid (∀ x0 x1 x2 x3 y0 y1:Value,TrP w.heap.size (fill6 w4 K0 K1 x0 x1 x2 x3 y0 y1) (d+1) (.agg #[.int .i64 6,.string (mk []),.string (mk []),.slice ad len cap]) ⟨6,[],[],x.1⟩):=fun x0 x1 x2 x3 y0 y1 =>
    ((((((HTP4.out.set HKC.out.1).set HKC.out.1).set HKC.out.1).set HKC.out.1).set HKC.out.2.1).set HKC.out.2.1).mono HKC.out.2.2
   go_region
   all_goals
    go_wp2;have htf:=(HTF.out (.int .i64 6) (.string ⟨#[]⟩) (.string ⟨#[]⟩) (.slice ad len cap) (.int .i64 0) (.int .i64 0)).drew1;have hO:=HS4.out.out (.int .i64 6) (.string ⟨#[]⟩) (.string ⟨#[]⟩) (.slice ad len cap) (.int .i64 0) (.int .i64 0);have hrd:=HS4.out.rd HR4.out (.int .i64 6) (.string ⟨#[]⟩) (.string ⟨#[]⟩) (.slice ad len cap) (.int .i64 0) (.int .i64 0);change bodyPost _ _ _ _ _ (fill6 w4 K0 K1 (.int .i64 6) (.string ⟨#[]⟩) (.string ⟨#[]⟩) (.slice ad len cap) (.int .i64 0) (.int .i64 0)).drew;generalize fill6 w4 K0 K1 (.int .i64 6) (.string ⟨#[]⟩) (.string ⟨#[]⟩) (.slice ad len cap) (.int .i64 0) (.int .i64 0)=WF at hO hrd htf |-;obtain⟨o2,o3,o4⟩:=hO;have j0:WF.drew.cell? ⟨K0,0,none⟩=_:=o3.cell 0;have j1:WF.drew.cell? ⟨K0,1,none⟩=_:=o3.cell 1;have j2:WF.drew.cell? ⟨K0,2,none⟩=_:=o3.cell 2;have j3:WF.drew.cell? ⟨K0,3,none⟩=_:=o3.cell 3;have j4:WF.drew.cell? ⟨K1,0,none⟩=_:=o4.cell 0;have j5:WF.drew.cell? ⟨K1,1,none⟩=_:=o4.cell 1;replace hrd:=hrd.drew1;replace o2:=o2.drew;refine bodyPost_ret (v:=.tuple #[.agg #[.int .i64 6,.string ⟨#[]⟩,.string ⟨#[]⟩,.slice ad len cap],.string ⟨#[]⟩,.agg #[.int .i64 0,.int .i64 0]]) (by simp[results,Tryz.results138,go_sem,j0,j1,j2,j3,j4,j5]) rfl ?_;rw[HL.out];exact⟨_,rfl,htf,⟨q,hq2,HX2.out,hrd⟩,o2⟩
 ·have HL:Hid (lcont inner f (s.drop p)=lscl f (s.drop p)):=by unfold lcont;rw[if_neg (fun h=>h.elim c1 c2)];exact rfl
  refine(HSE.out 91 0 (.inl rfl)).mono ?_;rintro e w1 ⟨rfl,n1,rfl⟩;rw[decide_eq_false c1];go_wp2_with fail;refine(HSE.out 123 _ (.inr rfl)).mono ?_;rintro e w1 ⟨rfl,n2,rfl⟩;rw[decide_eq_false c2,World.drewN_drewN];generalize n1+n2=n1;go_wp2_with fail;refine(HSC.out _).mono ?_;intro e w3 hres;have hlf:=fun x (hx:lscl f (s.drop p)=.ok x)=>lscl_leaf hx (by rw[List.length_drop];omega)
  generalize hq:lscl f (s.drop p)=r at hres HL hlf
  cases r with
  | error F =>
   obtain⟨k,hk,rfl,hf3⟩:=hres;unfold fv lfV;have HS3:Hid (S2 w w3 b K0 K1):=(hS.drew _).step hf3;have hkb: -9223372036854775808<=k/\k<=9223372036854775807:=by rcases hk with rfl | rfl<;>decide
   clear hf3 hk;obtain⟨X0,X1,X2,X3,Y0,Y1,Z0,Z1,Z2,Z3,V0,V1⟩:=HS3.out.c;have hd10:K1≠K0:=by have:=HS3.out.h1;omega
   have hd01:K0≠K1:=by omega
   go_wp2;have hO:=HS3.out.out (.int .i64 k) (.string (mk [])) (.string (mk [])) (.slice none 0 0) (.int .i64 (F.1:Int)) (.int .i64 ((s.length-F.2:Nat):Int));change bodyPost _ _ _ _ _ (fill6 w3 K0 K1 (.int .i64 k) (.string (mk [])) (.string (mk [])) (.slice none 0 0) (.int .i64 (F.1:Int)) (.int .i64 ((s.length-F.2:Nat):Int)));generalize fill6 w3 K0 K1 (.int .i64 k) (.string (mk [])) (.string (mk [])) (.slice none 0 0) (.int .i64 (F.1:Int)) (.int .i64 ((s.length-F.2:Nat):Int))=WF at hO |-;obtain⟨o2,o3,o4⟩:=hO;have j0:WF.cell? ⟨K0,0,none⟩=_:=o3.cell 0;have j1:WF.cell? ⟨K0,1,none⟩=_:=o3.cell 1;have j2:WF.cell? ⟨K0,2,none⟩=_:=o3.cell 2;have j3:WF.cell? ⟨K0,3,none⟩=_:=o3.cell 3;have j4:WF.cell? ⟨K1,0,none⟩=_:=o4.cell 0;have j5:WF.cell? ⟨K1,1,none⟩=_:=o4.cell 1;refine bodyPost_ret (v:=.tuple #[.agg #[.int .i64 k,.string (mk []),.string (mk []),.slice none 0 0],.string (mk []),.agg #[.int .i64 (F.1:Int),.int .i64 ((s.length-F.2:Nat):Int)]]) (by simp[results,Tryz.results138,go_sem,j0,j1,j2,j3,j4,j5]) rfl ?_;rw[HL.out];exact⟨_,⟨k,[],[],[]⟩,_,TrP.leaf k [] [] hkb (by simp) (by simp) 0,rfl,o2⟩
  | ok x =>
   obtain⟨⟨t,wr⟩,l'⟩:=x;obtain⟨rfl,⟨q,hq2,hx2,hr3⟩,hf3⟩:=hres;obtain⟨l1,l2,l3,l4⟩:=hlf _ rfl;simp only at l1 l2 l3 l4 hx2;obtain⟨k,tx,ta,tk⟩:=t;simp only[Tr.mk.injEq,true_and]at l1;obtain⟨rfl,rfl⟩:=l1;unfold f0 lfV;have HS3:Hid (S2 w w3 b K0 K1):=(hS.drew _).step hf3;have HX2:Hid (l'=s.drop q):=hx2;have HR3:Hid (Rd w3 b s q dp):=hr3;have HLL:Hid (1<=k/\k<=4):=l2;have HL3:Hid (tx.length<=65536):=l3;clear hf3 hr3 hx2 l2 l3 l4;obtain⟨X0,X1,X2,X3,Y0,Y1,Z0,Z1,Z2,Z3,V0,V1⟩:=HS3.out.c;have hd10:K1≠K0:=by have:=HS3.out.h1;omega
   have hd01:K0≠K1:=by omega
   go_wp2;have hO:=HS3.out.out (.int .i64 k) (.string (mk tx)) (.string (mk [])) (.slice none 0 0) (.int .i64 0) (.int .i64 0);have hrd:=HS3.out.rd HR3.out (.int .i64 k) (.string (mk tx)) (.string (mk [])) (.slice none 0 0) (.int .i64 0) (.int .i64 0);change bodyPost _ _ _ _ _ (fill6 w3 K0 K1 (.int .i64 k) (.string (mk tx)) (.string (mk [])) (.slice none 0 0) (.int .i64 0) (.int .i64 0));generalize fill6 w3 K0 K1 (.int .i64 k) (.string (mk tx)) (.string (mk [])) (.slice none 0 0) (.int .i64 0) (.int .i64 0)=WF at hO hrd |-;obtain⟨o2,o3,o4⟩:=hO;have j0:WF.cell? ⟨K0,0,none⟩=_:=o3.cell 0;have j1:WF.cell? ⟨K0,1,none⟩=_:=o3.cell 1;have j2:WF.cell? ⟨K0,2,none⟩=_:=o3.cell 2;have j3:WF.cell? ⟨K0,3,none⟩=_:=o3.cell 3;have j4:WF.cell? ⟨K1,0,none⟩=_:=o4.cell 0;have j5:WF.cell? ⟨K1,1,none⟩=_:=o4.cell 1;refine bodyPost_ret (v:=.tuple #[.agg #[.int .i64 k,.string (mk tx),.string (mk []),.slice none 0 0],.string (mk wr),.agg #[.int .i64 0,.int .i64 0]]) (by simp[results,Tryz.results138,go_sem,j0,j1,j2,j3,j4,j5]) rfl ?_;rw[HL.out];exact⟨_,rfl,TrP.leaf k tx [] (by have:=HLL.out;omega) HL3.out (by simp) d,⟨q,hq2,HX2.out,hrd⟩,o2⟩
end Flw
namespace Flw
open Utf Rws Pln
open Go.RowKit
set_option maxHeartbeats 4000000
variable {b p dp d:Nat} {s:Ln} {w w1 w2:World}
theorem lpart_bad {v:Ln->Ot (Tr × Ln)} (hv:∀ l,Bad (v l)) (map:Bool) (l:Ln):Bad (lpart v map l):=by
 unfold lpart lentry litem;exact .ite (.bnd (lscl_bad _ _) fun _=>.ite (.err (stands_ne _)) (.bnd (hv _) fun _=>.ok _)) (.bnd (hv _) fun _=>.ite (.err (stands_ne _)) (.ok _))
theorem lbr_bad {v:Ln->Ot (Tr × Ln)} (hv:∀ l,Bad (v l)) (map:Bool):∀ (n:Nat) (l:Ln),Bad (lbr v map n l)
 | 0,l=>.err (stands_ne _)
 | n+1,l=>by
  unfold lbr;exact .ite (.ok _) (.bnd (lpart_bad hv map l) fun x=>.ite (.bnd (lbr_bad hv map n _) fun _=>.ok _) (.ite (.ok _) (.err (stands_ne _))))
theorem lcont_bad {inner:Option (Ln->Ot (Tr × Ln))} (hv:∀ v,inner=some v->∀ l,Bad (v l)) (f:Bool) (l:Ln):Bad (lcont inner f l):=by
 unfold lcont;refine .ite ?_ (lscl_bad f l)
 cases inner with
 | none=>exact .err (show 10≠0 by decide)
 | some v=>exact .bnd (lbr_bad (hv v rfl) _ _ _) fun _=>.ok _
theorem lval_bad (d:Nat) (f:Bool) (l:Ln):Bad (lval d f l):=by
 intro e h;have h1:=val_l d f l
 cases hv:val d f l with
 | error e'=>rw[hv]at h1;have h1:lval d f l=.error e':=h1;rw[h1]at h;cases h;exact val_bad d f l _ hv
 | ok x=>rw[hv]at h1;obtain⟨m,h2,_⟩:=h1;rw[h2]at h;cases h
theorem lprp_ok {f:Bool} {l:Ln} {x:Pr × Ln} (h:lprp f 3 p0 l=.ok x):PrOk x.1:=by
 have h1:=prp_l f 3 p0 l;rw[h,bnd_ok]at h1;exact(prp_inv f 3 p0 _ _ p0_ok h1).1
theorem lprp_bad (f:Bool) (l:Ln):Bad (lprp f 3 p0 l):=by
 intro e h;have h1:=prp_l f 3 p0 l;rw[h]at h1;exact prp_bad f 3 p0 _ _ h1
theorem lcont_wr {inner:Option (Ln->Ot (Tr × Ln))} {f:Bool} {l:Ln} {x:(Tr × Ln) × Ln} (h:lcont inner f l=.ok x) (hl:l.length<=65536):x.1.2.length<=65536:=by
 unfold lcont at h;by_cases c:hd (gaps l)=91\/hd (gaps l)=123
 ·rw[if_pos c]at h
  cases inner with
  | none=>cases h
  | some v=>obtain⟨y,_,h⟩:=bnd_inv h;cases h;exact Nat.zero_le _
 ·rw[if_neg c]at h;exact(lscl_leaf h hl).2.2.2
theorem anc_len {a:Ln} (h:a=[]\/isName a=true):a.length<=65536:=by
 rcases h with rfl | h
 ·exact Nat.zero_le _
 ·unfold isName at h;simp at h;omega
theorem S2.kf {K0 K1 k:Nat} {w0:World} (h:S2 w0 w b K0 K1) (h0:k≠K0) (h1:k≠K1) (hk:w0.heap.size<=k) (i:Nat) (x:Value):S2 w0 (w.setCell ⟨k,i,none⟩ x) b K0 K1 :=
 ⟨h.k0.other (fun e=>h0 e.symm) _ _,h.k1.other (fun e=>h1 e.symm) _ _,h.fr.new hk (by have:=h.hb;omega) _ _,h.hb,h.h0,h.h1⟩
theorem TbB.set {k:Nat} (h:TbB b w) (hk:b<=k) (i:Nat) (x:Value):TbB b (w.setCell ⟨k,i,none⟩ x):=by
 obtain⟨w0,h1,h2,h3⟩:=h;exact⟨w0,h1,h2,h3.setCell (p:=⟨k,i,none⟩) (Nat.le_trans h2 hk) _⟩
theorem TrP.anch {c:Nat} {k x y sl:Value} {t:Tr} (h:TrP c w (d+1) (.agg #[k,x,y,sl]) t) (a:Ln) (ha:a.length<=65536):TrP c w (d+1) (.agg #[k,x,.string (mk a),sl]) (Flw.anch t a):=by
 obtain⟨ad,len,cap,e,hl,hc,hm,hz,hk⟩:=h;simp only[Value.agg.injEq,Array.mk.injEq,List.cons.injEq,and_true]at e;obtain⟨rfl,rfl,rfl,rfl⟩:=e;exact⟨ad,len,cap,rfl,hl,hc,hm,⟨hz.1,hz.2.1,hz.2.2.1,by show a.length<=_;omega⟩,hk⟩
theorem told_val {c:Nat} {ad:Option Addr} {len cap:Nat} {t:Tr} (h:TrP c w (d+1) (.agg #[.int .i64 t.kind,.string (mk t.text),.string (mk t.anc),.slice ad len cap]) t) (l:Ln) (hl:l.length<=65536) (g:Int) :
  ∃ (k':Int) (x' c':ByteArray) (ad':Option Addr) (len' cap':Nat),toldV t.kind (mk t.text) (mk t.anc) (.slice ad len cap) l g=.agg #[.int .i64 k',.string x',.string c',.slice ad' len' cap']/\k'=(told t l g).kind /\
   TrP c w (d+1) (.agg #[.int .i64 k',.string x',.string c',.slice ad' len' cap']) (told t l g):=by
 by_cases h5:t.kind=5\/t.kind=6
 ·have e1:toldV t.kind (mk t.text) (mk t.anc) (.slice ad len cap) l g=.agg #[.int .i64 t.kind,.string (mk t.text),.string (mk t.anc),.slice ad len cap]:=by unfold toldV;rw[if_pos h5]
  have e2:told t l g=t:=by unfold told isLst;rw[if_pos (by rcases h5 with h5 | h5<;>simp[h5])]
  rw[e1,e2];exact⟨_,_,_,_,_,_,rfl,rfl,h⟩
 ·have hL: ¬ isLst t=true:=by unfold isLst;simpa [not_or]using h5
  by_cases h4:g=4
  ·have e1:toldV t.kind (mk t.text) (mk t.anc) (.slice ad len cap) l g=lfV 4 l []:=by unfold toldV;rw[if_neg h5,if_pos h4]
   have e2:told t l g=⟨4,l,[],[]⟩:=by unfold told;rw[if_neg hL,if_pos h4]
   rw[e1,e2];exact⟨_,_,_,_,_,_,rfl,rfl,TrP.leaf 4 l [] (by decide) hl (by simp) d⟩
  ·have e1:toldV t.kind (mk t.text) (mk t.anc) (.slice ad len cap) l g=lfV (knd l) (if knd l=1 then []else l) []:=by unfold toldV;rw[if_neg h5,if_neg h4]
   have e2:told t l g=leaf (knd l) l []:=by unfold told;rw[if_neg hL,if_neg h4]
   rw[e1,e2];have hk:=knd_bd l;refine⟨_,_,_,_,_,_,rfl,rfl,TrP.leaf (knd l) (if knd l=1 then []else l) [] (by omega) ?_ (by simp) d⟩;split
   ·exact Nat.zero_le _
   ·exact hl
theorem value_any {inner:Option (Ln->Ot (Tr × Ln))} (f:Bool) (hbr:BrkOk b s dp d inner) (hbad:∀ v,inner=some v->∀ l,Bad (v l)) (h:Rd w b s p dp) (hp:p<=s.length) (hs:s.length<=65536) (hT:TbB b w) :
  Calls Tryz.prog 108 #[.pointer (some ⟨b,0,none⟩),.bool f] w fun e w'=>ValRes b s dp w (d+1) (lstep inner f (s.drop p)) e w':=by
 have hS:=S2.new w h.lt;have hr:=h.two;have hT0:=hT.fr hS.fr;have hC1:=hS.k0.lt;have hC2:=hS.k1.lt;have hC3:=hS.fr.size;obtain⟨W,hW⟩:∃ W,(w.alloc (.cells zT 24)).alloc (.cells zF 33)=W:=⟨_,rfl⟩;rw[hW]at hS hr hT0 hC1 hC2 hC3;go_enter Tryz.func108,Tryz.ntmps108;go_wp2_with fail;change Calls _ _ _ ((w.alloc (.cells zT 24)).alloc (.cells zF 33)) _;rw[hW];generalize hK1:w.heap.size+1=K1 at hS hC2 |-;generalize hK0:w.heap.size=K0 at hS hC1 |-;have HKC:Hid (K0<W.heap.size/\K1<W.heap.size/\w.heap.size<=W.heap.size):=⟨hC1,hC2,by rw[hK0];rw[hK0]at hC3;exact hC3⟩;clear hK0 hK1 hW hC1 hC2 hC3;by_cases c42:hd (gaps (s.drop p))=42
 ·have HTY:Hid (Calls Tryz.prog 135 #[.pointer (some ⟨b,0,none⟩),.string ⟨#[42]⟩] W fun e w'=>e=.returned (.bool true)/\Hid (Rd w' b s (nx s p+1) dp/\S2 w w' b K0 K1/\W.heap.size<=w'.heap.size)) :=
   (takes_yes [42] hr hp hs (by decide) (by rw[see_hd s p (by decide)];simpa using c42)).mono (fun e w' h=>⟨h.1,h.2.1,hS.step h.2.2,h.2.2.size⟩)
  have hq1:nx s p+1<=s.length:=by
   have h1:=gaps_nx s hp;have:=(hd_ne (l:=gaps (s.drop p)) (by rw[c42];decide)).2;omega
  have hdr:s.drop (nx s p+1)=(gaps (s.drop p)).drop 1:=by rw[<-List.drop_drop,drop_nx s hp]
  have HL:Hid (lstep inner f (s.drop p)=bnd (nam (s.drop (nx s p+1))) fun x=>.ok (⟨7,[],x.1,[]⟩,x.2)):=by unfold lstep;rw[if_pos c42,hdr];exact rfl
  clear hdr c42;refine HTY.out.mono ?_;rintro e w1 ⟨rfl,H1⟩;have HNA:Hid (Calls Tryz.prog 136 #[.pointer (some ⟨b,0,none⟩)] w1 fun e w'=>NamRes b s dp w1 (nam (s.drop (nx s p+1))) e w'):=name_any H1.out.1 hq1 hs;go_wp2_with fail;refine HNA.out.mono ?_;intro e w3 hres;generalize hq:nam (s.drop (nx s p+1))=r at hres HL
  cases r with
  | error F =>
   obtain⟨rfl,hf3⟩:=hres;unfold fv;have HS3:Hid (S2 w w3 b K0 K1):=H1.out.2.1.step hf3;clear hf3;go_wp2;have hKF0:K0<w3.heap.size:=HS3.out.k0.lt;have hKF1:K1<w3.heap.size:=HS3.out.k1.lt;have hkf1:w3.heap.size≠K0:=by omega
   have hkf2:K0≠w3.heap.size:=by omega
   have hkf3:w3.heap.size≠K1:=by omega
   have hkf4:K1≠w3.heap.size:=by omega
   obtain⟨w4,hw4⟩:∃ w4,w3.alloc (.cells #[.int .i64 (F.1:Int),.int .i64 ((s.length-F.2:Nat):Int)] 33)=w4:=⟨_,rfl⟩;have hbw4:Below w3.heap.size w3 w4:=by rw[<-hw4];exact below_alloc _ _
   have hxw4:Bx w4 w3.heap.size #[.int .i64 (F.1:Int),.int .i64 ((s.length-F.2:Nat):Int)] 33:=by rw[<-hw4];exact Bx.new _ _ _
   obtain⟨f0_w4,f1_w4⟩:=hxw4.c2;rw[hw4];clear hw4;have HS4:Hid (S2 w w4 b K0 K1):=HS3.out.later hbw4;clear HS3 hbw4 hxw4;obtain⟨X0,X1,X2,X3,Y0,Y1,Z0,Z1,Z2,Z3,V0,V1⟩:=HS4.out.c;have hd10:K1≠K0:=by have:=HS4.out.h1;omega
   have hd01:K0≠K1:=by omega
   go_region
   all_goals
    go_wp2;have hO:=HS4.out.out (.int .i64 7) (.string ⟨#[]⟩) (.string (mk [])) (.slice none 0 0) (.int .i64 (F.1:Int)) (.int .i64 ((s.length-F.2:Nat):Int));change bodyPost _ _ _ _ _ (fill6 w4 K0 K1 (.int .i64 7) (.string ⟨#[]⟩) (.string (mk [])) (.slice none 0 0) (.int .i64 (F.1:Int)) (.int .i64 ((s.length-F.2:Nat):Int))).drew;generalize fill6 w4 K0 K1 (.int .i64 7) (.string ⟨#[]⟩) (.string (mk [])) (.slice none 0 0) (.int .i64 (F.1:Int)) (.int .i64 ((s.length-F.2:Nat):Int))=WF at hO |-;obtain⟨o2,o3,o4⟩:=hO;have j0:WF.drew.cell? ⟨K0,0,none⟩=_:=o3.cell 0;have j1:WF.drew.cell? ⟨K0,1,none⟩=_:=o3.cell 1;have j2:WF.drew.cell? ⟨K0,2,none⟩=_:=o3.cell 2;have j3:WF.drew.cell? ⟨K0,3,none⟩=_:=o3.cell 3;have j4:WF.drew.cell? ⟨K1,0,none⟩=_:=o4.cell 0;have j5:WF.drew.cell? ⟨K1,1,none⟩=_:=o4.cell 1;replace o2:=o2.drew;refine bodyPost_ret (v:=.tuple #[.agg #[.int .i64 7,.string ⟨#[]⟩,.string (mk []),.slice none 0 0],.agg #[.int .i64 (F.1:Int),.int .i64 ((s.length-F.2:Nat):Int)]]) (by simp[results,Tryz.results108,go_sem,j0,j1,j2,j3,j4,j5]) rfl ?_;rw[HL.out];exact⟨_,⟨7,[],[],[]⟩,TrP.leaf 7 [] [] (by decide) (by simp) (by simp) 0,rfl,o2⟩
  | ok x =>
   obtain⟨rfl,⟨q,hq2,hx2,hr3⟩,hf3⟩:=hres;have hxl:=anc_len (.inr (nam_inv hq).1);unfold f0;have HS3:Hid (S2 w w3 b K0 K1):=H1.out.2.1.step hf3;have HX2:Hid (x.2=s.drop q):=hx2;have HR3:Hid (Rd w3 b s q dp):=hr3;clear hf3 hr3 hx2;go_wp2;have hKF0:K0<w3.heap.size:=HS3.out.k0.lt;have hKF1:K1<w3.heap.size:=HS3.out.k1.lt;have hkf1:w3.heap.size≠K0:=by omega
   have hkf2:K0≠w3.heap.size:=by omega
   have hkf3:w3.heap.size≠K1:=by omega
   have hkf4:K1≠w3.heap.size:=by omega
   obtain⟨w4,hw4⟩:∃ w4,w3.alloc (.cells #[.int .i64 0,.int .i64 0] 33)=w4:=⟨_,rfl⟩;have hbw4:Below w3.heap.size w3 w4:=by rw[<-hw4];exact below_alloc _ _
   have hxw4:Bx w4 w3.heap.size #[.int .i64 0,.int .i64 0] 33:=by rw[<-hw4];exact Bx.new _ _ _
   obtain⟨f0_w4,f1_w4⟩:=hxw4.c2;rw[hw4];clear hw4;have HS4:Hid (S2 w w4 b K0 K1):=HS3.out.later hbw4;have HR4:Hid (Rd w4 b s q dp):=HR3.out.later hbw4;clear HS3 hbw4 hxw4 HR3;obtain⟨X0,X1,X2,X3,Y0,Y1,Z0,Z1,Z2,Z3,V0,V1⟩:=HS4.out.c;have hd10:K1≠K0:=by have:=HS4.out.h1;omega
   have hd01:K0≠K1:=by omega
   go_region
   all_goals
    go_wp2;have hO:=HS4.out.out (.int .i64 7) (.string ⟨#[]⟩) (.string (mk x.1)) (.slice none 0 0) (.int .i64 0) (.int .i64 0);have hrd:=HS4.out.rd HR4.out (.int .i64 7) (.string ⟨#[]⟩) (.string (mk x.1)) (.slice none 0 0) (.int .i64 0) (.int .i64 0);change bodyPost _ _ _ _ _ (fill6 w4 K0 K1 (.int .i64 7) (.string ⟨#[]⟩) (.string (mk x.1)) (.slice none 0 0) (.int .i64 0) (.int .i64 0)).drew;generalize fill6 w4 K0 K1 (.int .i64 7) (.string ⟨#[]⟩) (.string (mk x.1)) (.slice none 0 0) (.int .i64 0) (.int .i64 0)=WF at hO hrd |-;obtain⟨o2,o3,o4⟩:=hO;have j0:WF.drew.cell? ⟨K0,0,none⟩=_:=o3.cell 0;have j1:WF.drew.cell? ⟨K0,1,none⟩=_:=o3.cell 1;have j2:WF.drew.cell? ⟨K0,2,none⟩=_:=o3.cell 2;have j3:WF.drew.cell? ⟨K0,3,none⟩=_:=o3.cell 3;have j4:WF.drew.cell? ⟨K1,0,none⟩=_:=o4.cell 0;have j5:WF.drew.cell? ⟨K1,1,none⟩=_:=o4.cell 1;replace hrd:=hrd.drew1;replace o2:=o2.drew;refine bodyPost_ret (v:=.tuple #[.agg #[.int .i64 7,.string ⟨#[]⟩,.string (mk x.1),.slice none 0 0],.agg #[.int .i64 0,.int .i64 0]]) (by simp[results,Tryz.results108,go_sem,j0,j1,j2,j3,j4,j5]) rfl ?_;rw[HL.out];exact⟨_,rfl,TrP.leaf 7 [] x.1 (by decide) (by simp) hxl d,⟨q,hq2,HX2.out,hrd⟩,o2⟩
 ·have HTN:Hid (Calls Tryz.prog 135 #[.pointer (some ⟨b,0,none⟩),.string ⟨#[42]⟩] W fun e w'=>e=.returned (.bool false)/\∃ n,w'=W.drewN n):=takes_no [42] hr hp hs (by decide) (by rw[see_hd s p (by decide)];simpa using c42);have HL:Hid (lstep inner f (s.drop p)=bnd (lprp f 3 p0 (s.drop p)) fun y=>bnd (lcont inner f y.2) fun z=>bnd (lon y.1 z.1.1 z.1.2) fun t=>.ok (t,z.2)):=by unfold lstep;rw[if_neg c42];exact rfl
  have HPR:Hid (∀ k,Calls Tryz.prog 137 #[.pointer (some ⟨b,0,none⟩),.bool f] (W.drewN k) fun e w'=>PrpRes b s dp (W.drewN k) (lprp f 3 p0 (s.drop p)) e w'):=fun k=>properties_any f (hr.drew k) hp hs
  refine HTN.out.mono ?_;rintro e w1 ⟨rfl,k1,rfl⟩;go_wp2_with fail;refine(HPR.out _).mono ?_;intro e w3 hres;have hpb:=lprp_bad f (s.drop p);generalize hlp:lprp f 3 p0 (s.drop p)=r at hres HL hpb
  cases r with
  | error F =>
   obtain⟨rfl,hf3⟩:=hres;have hF0:=hpb F rfl;unfold fv zP;have HS3:Hid (S2 w w3 b K0 K1):=(hS.drew _).step hf3;clear hf3;go_upto_region 5 with fail
   have hS4:=HS3.out.later ((below_alloc w3 (.cells #[.string ⟨#[]⟩,.int .i64 0,.int .i64 0] 184)).trans ((below_alloc (w3.alloc (.cells #[.string ⟨#[]⟩,.int .i64 0,.int .i64 0] 184)) (.cells #[.int .i64 (F.1:Int),.int .i64 ((s.length-F.2:Nat):Int)] 33)).mono (by simp)));have hB4:Below w3.heap.size w3 ((w3.alloc (.cells #[.string ⟨#[]⟩,.int .i64 0,.int .i64 0] 184)).alloc (.cells #[.int .i64 (F.1:Int),.int .i64 ((s.length-F.2:Nat):Int)] 33)):=(below_alloc _ _).trans ((below_alloc _ _).mono (by simp));have hP4:=(Bx.new w3 #[.string ⟨#[]⟩,.int .i64 0,.int .i64 0] 184).later (below_alloc (w3.alloc (.cells #[.string ⟨#[]⟩,.int .i64 0,.int .i64 0] 184)) (.cells #[.int .i64 (F.1:Int),.int .i64 ((s.length-F.2:Nat):Int)] 33));have hF4:=Bx.new (w3.alloc (.cells #[.string ⟨#[]⟩,.int .i64 0,.int .i64 0] 184)) #[.int .i64 (F.1:Int),.int .i64 ((s.length-F.2:Nat):Int)] 33;rw[show (w3.alloc (.cells #[.string ⟨#[]⟩,.int .i64 0,.int .i64 0] 184)).heap.size=w3.heap.size+1 by simp]at hF4;have hk0:K0<w3.heap.size:=HS3.out.k0.lt;have hk1:K1<w3.heap.size:=HS3.out.k1.lt;generalize (w3.alloc (.cells #[.string ⟨#[]⟩,.int .i64 0,.int .i64 0] 184)).alloc (.cells #[.int .i64 (F.1:Int),.int .i64 ((s.length-F.2:Nat):Int)] 33)=w4 at hS4 hB4 hP4 hF4 |-;have HB4:Hid (Below w3.heap.size w3 w4):=hB4;have HW4:Hid (∀ c,c<=w3.heap.size->c<=w4.heap.size):=fun c hc=>Nat.le_trans hc hB4.size
   clear hB4;have hkk:w3.heap.size<w3.heap.size+1:=by omega
   generalize w3.heap.size+1=KF at hF4 hkk |-;generalize hKP:w3.heap.size=KP at hP4 hk0 hk1 hkk |-;clear hKP;have HS4:Hid (S2 w w4 b K0 K1):=hS4;have HP4:Hid (Bx w4 KP #[.string ⟨#[]⟩,.int .i64 0,.int .i64 0] 184):=hP4;have HF4:Hid (Bx w4 KF #[.int .i64 (F.1:Int),.int .i64 ((s.length-F.2:Nat):Int)] 33):=hF4;obtain⟨i0,i1⟩:=hF4.c2;have hkf1:KF≠K0:=by omega
   have hkf2:K0≠KF:=by omega
   have hkf3:KF≠K1:=by omega
   have hkf4:K1≠KF:=by omega
   clear hS4 hP4 hF4;obtain⟨X0,X1,X2,X3,Y0,Y1,Z0,Z1,Z2,Z3,V0,V1⟩:=HS4.out.c;have hd10:K1≠K0:=by have:=HS4.out.h1;omega
   have hd01:K0≠K1:=by omega
   have hF2:((F.1:Int)!=0)=true:=by simpa using hF0
   clear hF0 hpb;go_wp2;go_region
   all_goals
    go_wp2;have hO:=HS4.out.out (.int .i64 0) (.string ⟨#[]⟩) (.string ⟨#[]⟩) (.slice none 0 0) (.int .i64 (F.1:Int)) (.int .i64 ((s.length-F.2:Nat):Int));change bodyPost _ _ _ _ _ (fill6 w4 K0 K1 (.int .i64 0) (.string ⟨#[]⟩) (.string ⟨#[]⟩) (.slice none 0 0) (.int .i64 (F.1:Int)) (.int .i64 ((s.length-F.2:Nat):Int))).drew;generalize fill6 w4 K0 K1 (.int .i64 0) (.string ⟨#[]⟩) (.string ⟨#[]⟩) (.slice none 0 0) (.int .i64 (F.1:Int)) (.int .i64 ((s.length-F.2:Nat):Int))=WF at hO |-;obtain⟨o2,o3,o4⟩:=hO;have j0:WF.drew.cell? ⟨K0,0,none⟩=_:=o3.cell 0;have j1:WF.drew.cell? ⟨K0,1,none⟩=_:=o3.cell 1;have j2:WF.drew.cell? ⟨K0,2,none⟩=_:=o3.cell 2;have j3:WF.drew.cell? ⟨K0,3,none⟩=_:=o3.cell 3;have j4:WF.drew.cell? ⟨K1,0,none⟩=_:=o4.cell 0;have j5:WF.drew.cell? ⟨K1,1,none⟩=_:=o4.cell 1;replace o2:=o2.drew;refine bodyPost_ret (v:=.tuple #[.agg #[.int .i64 0,.string ⟨#[]⟩,.string ⟨#[]⟩,.slice none 0 0],.agg #[.int .i64 (F.1:Int),.int .i64 ((s.length-F.2:Nat):Int)]]) (by simp[results,Tryz.results108,go_sem,j0,j1,j2,j3,j4,j5]) rfl ?_;rw[HL.out];exact⟨_,⟨0,[],[],[]⟩,TrP.leaf 0 [] [] (by decide) (by simp) (by simp) 0,rfl,o2⟩
  | ok y =>
   obtain⟨⟨a,tg,at_,sm⟩,l2⟩:=y;obtain⟨⟨T,hT1,hT2,rfl⟩,⟨q,hq,hl2,hr3⟩,hf3⟩:=hres;have hpo:=lprp_ok hlp;simp only at hl2 hT2;subst hl2;have hal:=anc_len hpo.1;have htg:0<=tg/\tg<=6:=hpo.2;have HAT:Hid (tg≠0->T=s.length-at_):=hT2;unfold prC f0;simp only[];have HS3:Hid (S2 w w3 b K0 K1):=(hS.drew _).step hf3;have HR3:Hid (Rd w3 b s q dp):=hr3;have HT3:Hid (TbB b w3):=(hT0.later (below_drewN (Below.refl _ _) _)).fr hf3;have HW3:Hid (W.heap.size<=w3.heap.size):=hf3.size;clear hf3 hr3 hT2 hpo hpb;go_upto_region 5 with fail
   have hS4:=HS3.out.later ((below_alloc w3 (.cells #[.string (mk a),.int .i64 tg,.int .i64 (T:Int)] 184)).trans ((below_alloc (w3.alloc (.cells #[.string (mk a),.int .i64 tg,.int .i64 (T:Int)] 184)) (.cells #[.int .i64 0,.int .i64 0] 33)).mono (by simp)));have hB4:Below w3.heap.size w3 ((w3.alloc (.cells #[.string (mk a),.int .i64 tg,.int .i64 (T:Int)] 184)).alloc (.cells #[.int .i64 0,.int .i64 0] 33)):=(below_alloc _ _).trans ((below_alloc _ _).mono (by simp));have hP4:=(Bx.new w3 #[.string (mk a),.int .i64 tg,.int .i64 (T:Int)] 184).later (below_alloc (w3.alloc (.cells #[.string (mk a),.int .i64 tg,.int .i64 (T:Int)] 184)) (.cells #[.int .i64 0,.int .i64 0] 33));have hF4:=Bx.new (w3.alloc (.cells #[.string (mk a),.int .i64 tg,.int .i64 (T:Int)] 184)) #[.int .i64 0,.int .i64 0] 33;rw[show (w3.alloc (.cells #[.string (mk a),.int .i64 tg,.int .i64 (T:Int)] 184)).heap.size=w3.heap.size+1 by simp]at hF4;have hk0:K0<w3.heap.size:=HS3.out.k0.lt;have hk1:K1<w3.heap.size:=HS3.out.k1.lt;generalize (w3.alloc (.cells #[.string (mk a),.int .i64 tg,.int .i64 (T:Int)] 184)).alloc (.cells #[.int .i64 0,.int .i64 0] 33)=w4 at hS4 hB4 hP4 hF4 |-;have HB4:Hid (Below w3.heap.size w3 w4):=hB4;have HW4:Hid (∀ c,c<=w3.heap.size->c<=w4.heap.size):=fun c hc=>Nat.le_trans hc hB4.size
   clear hB4;have hkk:w3.heap.size<w3.heap.size+1:=by omega
   generalize w3.heap.size+1=KF at hF4 hkk |-;generalize hKP:w3.heap.size=KP at hP4 hk0 hk1 hkk |-;clear hKP;have HS4:Hid (S2 w w4 b K0 K1):=hS4;have HP4:Hid (Bx w4 KP #[.string (mk a),.int .i64 tg,.int .i64 (T:Int)] 184):=hP4;have HF4:Hid (Bx w4 KF #[.int .i64 0,.int .i64 0] 33):=hF4;obtain⟨i0,i1⟩:=hF4.c2;have hkf1:KF≠K0:=by omega
   have hkf2:K0≠KF:=by omega
   have hkf3:KF≠K1:=by omega
   have hkf4:K1≠KF:=by omega
   clear hS4 hP4 hF4;obtain⟨X0,X1,X2,X3,Y0,Y1,Z0,Z1,Z2,Z3,V0,V1⟩:=HS4.out.c;have hd10:K1≠K0:=by have:=HS4.out.h1;omega
   have hd01:K0≠K1:=by omega
   have HR4:Hid (Rd w4 b s q dp):=HR3.out.later HB4.out;have HT4:Hid (TbB b w4):=HT3.out.later HB4.out;have HCO:Hid (Calls Tryz.prog 138 #[.pointer (some ⟨b,0,none⟩),.bool f] w4 fun e w'=>ConRes b s dp w4 (d+1) (lcont inner f (s.drop q)) e w'):=content_any f hbr HR4.out hq hs HT4.out;go_wp2_with fail;refine HCO.out.mono ?_;intro e w5 hres;have hcb:=lcont_bad hbad f (s.drop q);have hcw:=fun x (hx:lcont inner f (s.drop q)=.ok x)=>lcont_wr hx (by rw[List.length_drop];omega)
   rw[bnd_ok]at HL;generalize hlc:lcont inner f (s.drop q)=r at hres hcb hcw HL;clear HCO X0 X1 X2 X3 Y0 Y1 Z0 Z1 Z2 Z3 V0 V1 i0 i1
   cases r with
   | error F =>
    obtain⟨v,t,y,ht,rfl,hf5⟩:=hres;obtain⟨k2,x2,a2,ad2,len2,cap2,rfl⟩:=ht.cells;have hF0:=hcb F rfl;unfold fv;have hS5:=HS4.out.step hf5;have hbK:b<KF:=by have:=HS4.out.hb;have:=HS4.out.h0;omega
    have hbP:b<KP:=by have:=HS4.out.hb;have:=HS4.out.h0;omega
    have hP5:=HP4.out.fr hf5 hbP;have hF5:=HF4.out.fr hf5 hbK;obtain⟨z0,z1⟩:=hF5.c2;have z2:=hF5.fz 0;have z3:=hF5.fz 1;have z4:KF<w5.heap.size:=hF5.lt;have hwK:w.heap.size<=KF:=by have:=HS4.out.h0;omega
    have hS6:S2 w (((w5.setCell ⟨KF,0,none⟩ (.int .i64 (F.1:Int))).setCell ⟨KF,1,none⟩ (.int .i64 ((s.length-F.2:Nat):Int))).alloc (.cells #[.int .i64 k2,.string x2,.string a2,.slice ad2 len2 cap2] 24)) b K0 K1:=((hS5.kf hkf1 hkf3 hwK 0 (.int .i64 (F.1:Int))).kf hkf1 hkf3 hwK 1 (.int .i64 ((s.length-F.2:Nat):Int))).later (below_alloc _ _);have hP6:Bx (((w5.setCell ⟨KF,0,none⟩ (.int .i64 (F.1:Int))).setCell ⟨KF,1,none⟩ (.int .i64 ((s.length-F.2:Nat):Int))).alloc (.cells #[.int .i64 k2,.string x2,.string a2,.slice ad2 len2 cap2] 24)) KP #[.string (mk a),.int .i64 tg,.int .i64 (T:Int)] 184:=((hP5.other (by omega) 0 (.int .i64 (F.1:Int))).other (by omega) 1 (.int .i64 ((s.length-F.2:Nat):Int))).later (below_alloc _ _);have hF6:Bx (((w5.setCell ⟨KF,0,none⟩ (.int .i64 (F.1:Int))).setCell ⟨KF,1,none⟩ (.int .i64 ((s.length-F.2:Nat):Int))).alloc (.cells #[.int .i64 k2,.string x2,.string a2,.slice ad2 len2 cap2] 24)) KF #[.int .i64 (F.1:Int),.int .i64 ((s.length-F.2:Nat):Int)] 33:=((hF5.set 0 (.int .i64 (F.1:Int))).set 1 (.int .i64 ((s.length-F.2:Nat):Int))).later (below_alloc _ _)
    have hT6:Bx (((w5.setCell ⟨KF,0,none⟩ (.int .i64 (F.1:Int))).setCell ⟨KF,1,none⟩ (.int .i64 ((s.length-F.2:Nat):Int))).alloc (.cells #[.int .i64 k2,.string x2,.string a2,.slice ad2 len2 cap2] 24)) w5.heap.size #[.int .i64 k2,.string x2,.string a2,.slice ad2 len2 cap2] 24:=by
     have:=Bx.new ((w5.setCell ⟨KF,0,none⟩ (.int .i64 (F.1:Int))).setCell ⟨KF,1,none⟩ (.int .i64 ((s.length-F.2:Nat):Int))) #[.int .i64 k2,.string x2,.string a2,.slice ad2 len2 cap2] 24;rw[World.size_setCell,World.size_setCell]at this;exact this
    clear hS5 hP5 hF5;go_upto_region 8 with fail
    generalize (((w5.setCell ⟨KF,0,none⟩ (.int .i64 (F.1:Int))).setCell ⟨KF,1,none⟩ (.int .i64 ((s.length-F.2:Nat):Int))).alloc (.cells #[.int .i64 k2,.string x2,.string a2,.slice ad2 len2 cap2] 24))=w6 at hS6 hP6 hF6 hT6 |-;generalize w5.heap.size=KT at hT6 |-;clear z0 z1 z2 z3 z4;have HS6:Hid (S2 w w6 b K0 K1):=hS6;obtain⟨i0,i1⟩:=hF6.c2;obtain⟨p0_,p1_,p2_⟩:=hP6.c3;obtain⟨t0,t1,t2,t3⟩:=hT6.c4;clear hS6 hP6 hF6 hT6 HS4 HP4 HF4;obtain⟨X0,X1,X2,X3,Y0,Y1,Z0,Z1,Z2,Z3,V0,V1⟩:=HS6.out.c;have hd10:K1≠K0:=by have:=HS6.out.h1;omega
    have hd01:K0≠K1:=by omega
    have hF2:((F.1:Int)!=0)=true:=by simpa using hF0
    clear hF0 hcb hcw;go_wp2;go_region
    all_goals
     go_wp2;have hO:=HS6.out.out (.int .i64 0) (.string ⟨#[]⟩) (.string ⟨#[]⟩) (.slice none 0 0) (.int .i64 (F.1:Int)) (.int .i64 ((s.length-F.2:Nat):Int));change bodyPost _ _ _ _ _ (fill6 w6 K0 K1 (.int .i64 0) (.string ⟨#[]⟩) (.string ⟨#[]⟩) (.slice none 0 0) (.int .i64 (F.1:Int)) (.int .i64 ((s.length-F.2:Nat):Int))).drew;generalize fill6 w6 K0 K1 (.int .i64 0) (.string ⟨#[]⟩) (.string ⟨#[]⟩) (.slice none 0 0) (.int .i64 (F.1:Int)) (.int .i64 ((s.length-F.2:Nat):Int))=WF at hO |-;obtain⟨o2,o3,o4⟩:=hO;have j0:WF.drew.cell? ⟨K0,0,none⟩=_:=o3.cell 0;have j1:WF.drew.cell? ⟨K0,1,none⟩=_:=o3.cell 1;have j2:WF.drew.cell? ⟨K0,2,none⟩=_:=o3.cell 2;have j3:WF.drew.cell? ⟨K0,3,none⟩=_:=o3.cell 3;have j4:WF.drew.cell? ⟨K1,0,none⟩=_:=o4.cell 0;have j5:WF.drew.cell? ⟨K1,1,none⟩=_:=o4.cell 1;replace o2:=o2.drew;refine bodyPost_ret (v:=.tuple #[.agg #[.int .i64 0,.string ⟨#[]⟩,.string ⟨#[]⟩,.slice none 0 0],.agg #[.int .i64 (F.1:Int),.int .i64 ((s.length-F.2:Nat):Int)]]) (by simp[results,Tryz.results108,go_sem,j0,j1,j2,j3,j4,j5]) rfl ?_;rw[HL.out];exact⟨_,⟨0,[],[],[]⟩,TrP.leaf 0 [] [] (by decide) (by simp) (by simp) 0,rfl,o2⟩
   | ok x =>
    obtain⟨⟨t,wr⟩,l3⟩:=x;obtain⟨v,rfl,ht,⟨q2,hq2,hl3,hr5⟩,hf5⟩:=hres;simp only at ht hl3;subst hl3;have hwr:=hcw _ rfl;simp only at hwr;have hte:=ht;obtain⟨ad2,len2,cap2,rfl,hrest⟩:=hte;clear hrest;have hto:=told_val ht wr hwr tg;obtain⟨k',x',c',ad',len',cap',hR,hk',htp⟩:=hto;unfold f0;simp only[];have HT0:Hid (TrP w4.heap.size w5 (d+1) (.agg #[.int .i64 t.kind,.string (mk t.text),.string (mk t.anc),.slice ad2 len2 cap2]) t):=ht;have HT1:Hid (TrP w4.heap.size w5 (d+1) (.agg #[.int .i64 k',.string x',.string c',.slice ad' len' cap']) (told t wr tg)):=htp;have HKP:Hid (k'=(told t wr tg).kind):=hk';have HR5:Hid (Rd w5 b s q2 dp):=hr5;have HLX:Hid (lstep inner f (s.drop p)=bnd (lon ⟨a,tg,at_,sm⟩ t wr) fun t=>.ok (t,s.drop q2)):=HL.out;have HTR:Hid (toldV t.kind (mk t.text) (mk t.anc) (.slice ad2 len2 cap2) wr tg=.agg #[.int .i64 k',.string x',.string c',.slice ad' len' cap']):=hR;have HOI:Hid (∀ w,Tb w->Calls Tryz.prog 139 #[.agg #[.string (mk a),.int .i64 tg,.int .i64 (T:Int)],.agg #[.int .i64 t.kind,.string (mk t.text),.string (mk t.anc),.slice ad2 len2 cap2],.string (mk wr)] w fun e w'=>e=.returned (onV a tg T t.kind (mk t.text) (.slice ad2 len2 cap2) k' x' (.slice ad' len' cap'))/\Below w.heap.size w w'):=fun w hw=>on_any a tg T t.kind (mk t.text) (mk t.anc) ad2 len2 cap2 wr k' x' c' ad' len' cap' hwr htg hw hR
    have HON:Hid (lon ⟨a,tg,at_,sm⟩ t wr=if tg≠0 then (if (told t wr tg).kind≠tg then .error (12,at_)else .ok (anch (told t wr tg) a))else .ok (anch t a)):=rfl;clear ht htp hr5 hR hk' HL hcb hcw hlc;generalize hk2:t.kind=k2 at HT0 HOI |-;generalize hx2:mk t.text=x2 at HT0 HOI |-;generalize ha2:mk t.anc=a2 at HT0 HOI |-;clear hk2 hx2 ha2;have hS5:=HS4.out.step hf5;have hbK:b<KF:=by have:=HS4.out.hb;have:=HS4.out.h0;omega
    have hbP:b<KP:=by have:=HS4.out.hb;have:=HS4.out.h0;omega
    have hP5:=HP4.out.fr hf5 hbP;have hF5:=HF4.out.fr hf5 hbK;obtain⟨z0,z1⟩:=hF5.c2;have z2:=hF5.fz 0;have z3:=hF5.fz 1;have z4:KF<w5.heap.size:=hF5.lt;have hwK:w.heap.size<=KF:=by have:=HS4.out.h0;omega
    have hS6:S2 w (((w5.setCell ⟨KF,0,none⟩ (.int .i64 0)).setCell ⟨KF,1,none⟩ (.int .i64 0)).alloc (.cells #[.int .i64 k2,.string x2,.string a2,.slice ad2 len2 cap2] 24)) b K0 K1:=((hS5.kf hkf1 hkf3 hwK 0 (.int .i64 0)).kf hkf1 hkf3 hwK 1 (.int .i64 0)).later (below_alloc _ _);have hP6:Bx (((w5.setCell ⟨KF,0,none⟩ (.int .i64 0)).setCell ⟨KF,1,none⟩ (.int .i64 0)).alloc (.cells #[.int .i64 k2,.string x2,.string a2,.slice ad2 len2 cap2] 24)) KP #[.string (mk a),.int .i64 tg,.int .i64 (T:Int)] 184:=((hP5.other (by omega) 0 (.int .i64 0)).other (by omega) 1 (.int .i64 0)).later (below_alloc _ _);have hF6:Bx (((w5.setCell ⟨KF,0,none⟩ (.int .i64 0)).setCell ⟨KF,1,none⟩ (.int .i64 0)).alloc (.cells #[.int .i64 k2,.string x2,.string a2,.slice ad2 len2 cap2] 24)) KF #[.int .i64 0,.int .i64 0] 33:=((hF5.set 0 (.int .i64 0)).set 1 (.int .i64 0)).later (below_alloc _ _)
    have hT6:Bx (((w5.setCell ⟨KF,0,none⟩ (.int .i64 0)).setCell ⟨KF,1,none⟩ (.int .i64 0)).alloc (.cells #[.int .i64 k2,.string x2,.string a2,.slice ad2 len2 cap2] 24)) w5.heap.size #[.int .i64 k2,.string x2,.string a2,.slice ad2 len2 cap2] 24:=by
     have:=Bx.new ((w5.setCell ⟨KF,0,none⟩ (.int .i64 0)).setCell ⟨KF,1,none⟩ (.int .i64 0)) #[.int .i64 k2,.string x2,.string a2,.slice ad2 len2 cap2] 24;rw[World.size_setCell,World.size_setCell]at this;exact this
    have hK4:KF<w4.heap.size:=HF4.out.lt;have hX0:TrP w4.heap.size (((w5.setCell ⟨KF,0,none⟩ (.int .i64 0)).setCell ⟨KF,1,none⟩ (.int .i64 0)).alloc (.cells #[.int .i64 k2,.string x2,.string a2,.slice ad2 len2 cap2] 24)) (d+1) (.agg #[.int .i64 k2,.string x2,.string a2,.slice ad2 len2 cap2]) t:=((HT0.out.set hK4).set hK4).later (below_alloc _ _);have hX1:TrP w4.heap.size (((w5.setCell ⟨KF,0,none⟩ (.int .i64 0)).setCell ⟨KF,1,none⟩ (.int .i64 0)).alloc (.cells #[.int .i64 k2,.string x2,.string a2,.slice ad2 len2 cap2] 24)) (d+1) (.agg #[.int .i64 k',.string x',.string c',.slice ad' len' cap']) (told t wr tg):=((HT1.out.set hK4).set hK4).later (below_alloc _ _);have hX2:Rd (((w5.setCell ⟨KF,0,none⟩ (.int .i64 0)).setCell ⟨KF,1,none⟩ (.int .i64 0)).alloc (.cells #[.int .i64 k2,.string x2,.string a2,.slice ad2 len2 cap2] 24)) b s q2 dp:=((HR5.out.other (by omega) _ _).other (by omega) _ _).later (below_alloc _ _);have hX3:TbB b (((w5.setCell ⟨KF,0,none⟩ (.int .i64 0)).setCell ⟨KF,1,none⟩ (.int .i64 0)).alloc (.cells #[.int .i64 k2,.string x2,.string a2,.slice ad2 len2 cap2] 24)):=(((HT4.out.fr hf5).set (by omega) _ _).set (by omega) _ _).later (below_alloc _ _);clear hS5 hP5 hF5;go_upto_region 8 with fail
    generalize (((w5.setCell ⟨KF,0,none⟩ (.int .i64 0)).setCell ⟨KF,1,none⟩ (.int .i64 0)).alloc (.cells #[.int .i64 k2,.string x2,.string a2,.slice ad2 len2 cap2] 24))=w6 at hS6 hP6 hF6 hT6 hX0 hX1 hX2 hX3 |-;generalize w5.heap.size=KT at hT6 |-;clear z0 z1 z2 z3 z4;have HS6:Hid (S2 w w6 b K0 K1):=hS6;obtain⟨i0,i1⟩:=hF6.c2;obtain⟨p0_,p1_,p2_⟩:=hP6.c3;obtain⟨t0,t1,t2,t3⟩:=hT6.c4;clear hS6 hP6 hF6 hT6 HS4 HP4 HF4;obtain⟨X0,X1,X2,X3,Y0,Y1,Z0,Z1,Z2,Z3,V0,V1⟩:=HS6.out.c;have hd10:K1≠K0:=by have:=HS6.out.h1;omega
    have hd01:K0≠K1:=by omega
    have HX0:Hid (TrP w4.heap.size w6 (d+1) (.agg #[.int .i64 k2,.string x2,.string a2,.slice ad2 len2 cap2]) t):=hX0;have HX1:Hid (TrP w4.heap.size w6 (d+1) (.agg #[.int .i64 k',.string x',.string c',.slice ad' len' cap']) (told t wr tg)):=hX1;have HX2:Hid (Rd w6 b s q2 dp):=hX2;have HKW:Hid (K0<w4.heap.size/\K1<w4.heap.size/\w.heap.size<=w4.heap.size):=⟨by omega,by omega,by omega⟩;have HO6:=HOI.out w6 hX3.tb;clear HOI HT0 HT1 HR5 hX0 hX1 hX2 hX3 HTR hf5 hK4;by_cases ht0:tg=0
    ·have HV:Hid (lstep inner f (s.drop p)=.ok (anch t a,s.drop q2)):=by
      have h1:=HLX.out;rw[HON.out,if_neg (fun h=>h ht0),bnd_ok]at h1;exact h1
     have HOC:Hid (Calls Tryz.prog 139 #[.agg #[.string (mk a),.int .i64 tg,.int .i64 (T:Int)],.agg #[.int .i64 k2,.string x2,.string a2,.slice ad2 len2 cap2],.string (mk wr)] w6 fun e w'=>e=.returned (.tuple #[.agg #[.int .i64 k2,.string x2,.string (mk a),.slice ad2 len2 cap2],.agg #[.int .i64 0,.int .i64 0]])/\Hid (S2 w w' b K0 K1/\Rd w' b s q2 dp/\TrP w4.heap.size w' (d+1) (.agg #[.int .i64 k2,.string x2,.string (mk a),.slice ad2 len2 cap2]) (anch t a))) :=
      HO6.mono (fun e w' h=>⟨by have:=h.1;unfold onV at this;rw[if_pos ht0]at this;exact this,HS6.out.later h.2,HX2.out.later h.2,(HX0.out.anch a hal).later h.2⟩)
     clear HO6 HLX HON HX0 HX1 HX2 HKP ht0;go_wp2_with fail;refine HOC.out.mono ?_;rintro e w7 ⟨rfl,H7⟩;clear HOC X0 X1 X2 X3 Y0 Y1 Z0 Z1 Z2 Z3 V0 V1;obtain⟨X0,X1,X2,X3,Y0,Y1,Z0,Z1,Z2,Z3,V0,V1⟩:=H7.out.1.c;go_wp2;have htf:TrP w.heap.size (fill6 w7 K0 K1 (.int .i64 k2) (.string x2) (.string (mk a)) (.slice ad2 len2 cap2) (.int .i64 0) (.int .i64 0)) (d+1) (.agg #[.int .i64 k2,.string x2,.string (mk a),.slice ad2 len2 cap2]) (anch t a):=((((((H7.out.2.2.set HKW.out.1).set HKW.out.1).set HKW.out.1).set HKW.out.1).set HKW.out.2.1).set HKW.out.2.1).mono HKW.out.2.2;have hO:=H7.out.1.out (.int .i64 k2) (.string x2) (.string (mk a)) (.slice ad2 len2 cap2) (.int .i64 0) (.int .i64 0);have hrd:=H7.out.1.rd H7.out.2.1 (.int .i64 k2) (.string x2) (.string (mk a)) (.slice ad2 len2 cap2) (.int .i64 0) (.int .i64 0);change bodyPost _ _ _ _ _ (fill6 w7 K0 K1 (.int .i64 k2) (.string x2) (.string (mk a)) (.slice ad2 len2 cap2) (.int .i64 0) (.int .i64 0));generalize fill6 w7 K0 K1 (.int .i64 k2) (.string x2) (.string (mk a)) (.slice ad2 len2 cap2) (.int .i64 0) (.int .i64 0)=WF at hO hrd htf |-;obtain⟨o2,o3,o4⟩:=hO;have j0:WF.cell? ⟨K0,0,none⟩=_:=o3.cell 0;have j1:WF.cell? ⟨K0,1,none⟩=_:=o3.cell 1;have j2:WF.cell? ⟨K0,2,none⟩=_:=o3.cell 2;have j3:WF.cell? ⟨K0,3,none⟩=_:=o3.cell 3;have j4:WF.cell? ⟨K1,0,none⟩=_:=o4.cell 0;have j5:WF.cell? ⟨K1,1,none⟩=_:=o4.cell 1;refine bodyPost_ret (v:=.tuple #[.agg #[.int .i64 k2,.string x2,.string (mk a),.slice ad2 len2 cap2],.agg #[.int .i64 0,.int .i64 0]]) (by simp[results,Tryz.results108,go_sem,j0,j1,j2,j3,j4,j5]) rfl ?_;rw[HV.out];exact⟨_,rfl,htf,⟨q2,hq2,rfl,hrd⟩,o2⟩
    ·by_cases hkt:k'=tg
     ·have HV:Hid (lstep inner f (s.drop p)=.ok (anch (told t wr tg) a,s.drop q2)):=by
       have h1:=HLX.out;rw[HON.out,if_pos ht0,if_neg (fun h=>h (by rw[<-HKP.out];exact hkt)),bnd_ok]at h1;exact h1
      have HOC:Hid (Calls Tryz.prog 139 #[.agg #[.string (mk a),.int .i64 tg,.int .i64 (T:Int)],.agg #[.int .i64 k2,.string x2,.string a2,.slice ad2 len2 cap2],.string (mk wr)] w6 fun e w'=>e=.returned (.tuple #[.agg #[.int .i64 k',.string x',.string (mk a),.slice ad' len' cap'],.agg #[.int .i64 0,.int .i64 0]])/\Hid (S2 w w' b K0 K1/\Rd w' b s q2 dp/\TrP w4.heap.size w' (d+1) (.agg #[.int .i64 k',.string x',.string (mk a),.slice ad' len' cap']) (anch (told t wr tg) a))) :=
       HO6.mono (fun e w' h=>⟨by have:=h.1;unfold onV at this;rw[if_neg ht0,if_pos hkt]at this;exact this,HS6.out.later h.2,HX2.out.later h.2,(HX1.out.anch a hal).later h.2⟩)
      clear HO6 HLX HON HX0 HX1 HX2 HKP ht0 hkt;go_wp2_with fail;refine HOC.out.mono ?_;rintro e w7 ⟨rfl,H7⟩;clear HOC X0 X1 X2 X3 Y0 Y1 Z0 Z1 Z2 Z3 V0 V1;obtain⟨X0,X1,X2,X3,Y0,Y1,Z0,Z1,Z2,Z3,V0,V1⟩:=H7.out.1.c;go_wp2;have htf:TrP w.heap.size (fill6 w7 K0 K1 (.int .i64 k') (.string x') (.string (mk a)) (.slice ad' len' cap') (.int .i64 0) (.int .i64 0)) (d+1) (.agg #[.int .i64 k',.string x',.string (mk a),.slice ad' len' cap']) (anch (told t wr tg) a):=((((((H7.out.2.2.set HKW.out.1).set HKW.out.1).set HKW.out.1).set HKW.out.1).set HKW.out.2.1).set HKW.out.2.1).mono HKW.out.2.2;have hO:=H7.out.1.out (.int .i64 k') (.string x') (.string (mk a)) (.slice ad' len' cap') (.int .i64 0) (.int .i64 0);have hrd:=H7.out.1.rd H7.out.2.1 (.int .i64 k') (.string x') (.string (mk a)) (.slice ad' len' cap') (.int .i64 0) (.int .i64 0);change bodyPost _ _ _ _ _ (fill6 w7 K0 K1 (.int .i64 k') (.string x') (.string (mk a)) (.slice ad' len' cap') (.int .i64 0) (.int .i64 0));generalize fill6 w7 K0 K1 (.int .i64 k') (.string x') (.string (mk a)) (.slice ad' len' cap') (.int .i64 0) (.int .i64 0)=WF at hO hrd htf |-;obtain⟨o2,o3,o4⟩:=hO;have j0:WF.cell? ⟨K0,0,none⟩=_:=o3.cell 0;have j1:WF.cell? ⟨K0,1,none⟩=_:=o3.cell 1;have j2:WF.cell? ⟨K0,2,none⟩=_:=o3.cell 2;have j3:WF.cell? ⟨K0,3,none⟩=_:=o3.cell 3;have j4:WF.cell? ⟨K1,0,none⟩=_:=o4.cell 0;have j5:WF.cell? ⟨K1,1,none⟩=_:=o4.cell 1;refine bodyPost_ret (v:=.tuple #[.agg #[.int .i64 k',.string x',.string (mk a),.slice ad' len' cap'],.agg #[.int .i64 0,.int .i64 0]]) (by simp[results,Tryz.results108,go_sem,j0,j1,j2,j3,j4,j5]) rfl ?_;rw[HV.out];exact⟨_,rfl,htf,⟨q2,hq2,rfl,hrd⟩,o2⟩
     ·have HV:Hid (lstep inner f (s.drop p)=.error (12,at_)):=by
       have h1:=HLX.out;rw[HON.out,if_pos ht0,if_pos (fun h=>hkt (by rw[HKP.out];exact h))]at h1;exact h1
      have HTT:Hid (T=s.length-at_):=HAT.out ht0
      have HOC:Hid (Calls Tryz.prog 139 #[.agg #[.string (mk a),.int .i64 tg,.int .i64 (T:Int)],.agg #[.int .i64 k2,.string x2,.string a2,.slice ad2 len2 cap2],.string (mk wr)] w6 fun e w'=>e=.returned (.tuple #[.agg #[.int .i64 0,.string ⟨#[]⟩,.string ⟨#[]⟩,.slice none 0 0],.agg #[.int .i64 12,.int .i64 (T:Int)]])/\Hid (S2 w w' b K0 K1)) :=
       HO6.mono (fun e w' h=>⟨by have:=h.1;unfold onV at this;rw[if_neg ht0,if_neg hkt]at this;exact this,HS6.out.later h.2⟩)
      clear HO6 HLX HON HX0 HX1 HX2 HKP ht0 hkt;go_wp2_with fail;refine HOC.out.mono ?_;rintro e w7 ⟨rfl,H7⟩;clear HOC X0 X1 X2 X3 Y0 Y1 Z0 Z1 Z2 Z3 V0 V1;obtain⟨X0,X1,X2,X3,Y0,Y1,Z0,Z1,Z2,Z3,V0,V1⟩:=H7.out.c;go_wp2;have hO:=H7.out.out (.int .i64 0) (.string ⟨#[]⟩) (.string ⟨#[]⟩) (.slice none 0 0) (.int .i64 12) (.int .i64 (T:Int));change bodyPost _ _ _ _ _ (fill6 w7 K0 K1 (.int .i64 0) (.string ⟨#[]⟩) (.string ⟨#[]⟩) (.slice none 0 0) (.int .i64 12) (.int .i64 (T:Int)));generalize fill6 w7 K0 K1 (.int .i64 0) (.string ⟨#[]⟩) (.string ⟨#[]⟩) (.slice none 0 0) (.int .i64 12) (.int .i64 (T:Int))=WF at hO |-;obtain⟨o2,o3,o4⟩:=hO;have j0:WF.cell? ⟨K0,0,none⟩=_:=o3.cell 0;have j1:WF.cell? ⟨K0,1,none⟩=_:=o3.cell 1;have j2:WF.cell? ⟨K0,2,none⟩=_:=o3.cell 2;have j3:WF.cell? ⟨K0,3,none⟩=_:=o3.cell 3;have j4:WF.cell? ⟨K1,0,none⟩=_:=o4.cell 0;have j5:WF.cell? ⟨K1,1,none⟩=_:=o4.cell 1;refine bodyPost_ret (v:=.tuple #[.agg #[.int .i64 0,.string ⟨#[]⟩,.string ⟨#[]⟩,.slice none 0 0],.agg #[.int .i64 12,.int .i64 (T:Int)]]) (by simp[results,Tryz.results108,go_sem,j0,j1,j2,j3,j4,j5]) rfl ?_;rw[HV.out];exact⟨_,⟨0,[],[],[]⟩,TrP.leaf 0 [] [] (by decide) (by simp) (by simp) 0,by unfold fv;simp only;rw[<-HTT.out];rfl,o2⟩
end Flw
namespace Flw
open Utf Rws Pln
open Go.RowKit
set_option maxHeartbeats 4000000
variable {b p dp d:Nat} {s:Ln} {w w1 w2:World}
theorem value_all:∀ (d dp:Nat),dp+d=64->∀ (b:Nat) (s:Ln) (f:Bool) (w:World) (p:Nat),Rd w b s p dp->p<=s.length->s.length<=65536->TbB b w ->
  Calls Tryz.prog 108 #[.pointer (some ⟨b,0,none⟩),.bool f] w fun e w'=>ValRes b s dp w (d+1) (lval d f (s.drop p)) e w'
 | 0,dp,hd,b,s,f,w,p,h,hp,hs,hT=>by
  have hdp:dp=64:=by omega
  subst hdp;exact value_any (inner:=none) f (fun w' p' h1 h2 h3 h4=>⟨bracket_deep _ _ h1 h2 hs,bracket_deep _ _ h1 h2 hs⟩) (fun v hv=>by cases hv) h hp hs hT
 | d+1,dp,hd,b,s,f,w,p,h,hp,hs,hT=>by
  have hV:ValOk b s (dp+1) (d+1) (fun m=>lval d true m):=fun w' p' h1 h2 h3=>value_all d (dp+1) (by omega) b s true w' p' h1 h2 hs h3
  have hbd:∀ l,Bad ((fun m=>lval d true m) l):=fun l=>lval_bad d true l
  have hb:BrkOk b s dp (d+1) (some fun m=>lval d true m):=fun w' p' h1 h2 h3 h4 =>
   ⟨bracket_any 169 (enters_of Tryz.func169 (by kernel_rfl) rfl) false 93 rfl (by decide) (vf:=fun m=>lval d true m) (fun w2 p2 g1 g2 g3=>item_any hV (fun l e he=>hbd l e he) g1 g2 hs g3) (fun l e he=>lpart_bad hbd false l e he) (fun l=>lval_adv d true l) h1 h2 hs h3 (by omega) h4,
    bracket_any 170 (enters_of Tryz.func170 (by kernel_rfl) rfl) true 125 rfl (by decide) (vf:=fun m=>lval d true m) (fun w2 p2 g1 g2 g3=>entry_any hV (fun l e he=>hbd l e he) g1 g2 hs g3 (by omega)) (fun l e he=>lpart_bad hbd true l e he) (fun l=>lval_adv d true l) h1 h2 hs h3 (by omega) h4⟩
  exact value_any (inner:=some fun m=>lval d true m) f hb (fun v hv=>by cases hv;exact hbd) h hp hs hT
structure SW (w0 w:World) (K0 K1:Nat):Prop where
 k0:Bx w K0 zT 24
 k1:Bx w K1 zF 33
 bl:Below w0.heap.size w0 w
 h0:w0.heap.size<=K0
 h1:K0<K1
variable {K0 K1:Nat} {w0:World}
theorem SW.later (h:SW w0 w K0 K1) (hb:Below w.heap.size w w1):SW w0 w1 K0 K1:=⟨h.k0.later hb,h.k1.later hb,h.bl.trans (hb.mono h.bl.size),h.h0,h.h1⟩
theorem SW.fr (h:SW w0 w K0 K1) (hf:Fr b w w1) (hb:K1<b):SW w0 w1 K0 K1:=by
 have:=h.h0;have:=h.h1;exact⟨(hf.1.block _ (by omega)).trans h.k0,(hf.1.block _ (by omega)).trans h.k1,h.bl.trans (hf.1.mono (by omega)),h.h0,h.h1⟩
theorem SW.c (h:SW w0 w K0 K1):S2C w K0 K1:=⟨h.k0.cell 0,h.k0.cell 1,h.k0.cell 2,h.k0.cell 3,h.k1.cell 0,h.k1.cell 1,h.k0.fz 0,h.k0.fz 1,h.k0.fz 2,h.k0.fz 3,h.k1.fz 0,h.k1.fz 1⟩
theorem SW.out (h:SW w0 w K0 K1) (x0 x1 x2 x3 y0 y1:Value):Below w0.heap.size w0 (fill6 w K0 K1 x0 x1 x2 x3 y0 y1)/\Bx (fill6 w K0 K1 x0 x1 x2 x3 y0 y1) K0 #[x0,x1,x2,x3] 24/\Bx (fill6 w K0 K1 x0 x1 x2 x3 y0 y1) K1 #[y0,y1] 33:=by
 have:=h.h0;have:=h.h1;exact⟨((below_fill4 h.bl h.h0 x0 x1 x2 x3).setCell (p:=⟨K1,0,none⟩) (by show w0.heap.size<=K1;omega) _).setCell (p:=⟨K1,1,none⟩) (by show w0.heap.size<=K1;omega) _,((h.k0.fill4 rfl x0 x1 x2 x3).other (by omega) _ _).other (by omega) _ _,((h.k1.fill4o (by omega) x0 x1 x2 x3).set 0 y0).set 1 y1⟩
end Flw
namespace Flw
open Utf Rws Pln
open Go.RowKit
set_option maxHeartbeats 8000000
variable {w:World}
def rea (l:Ln) (f:Bool):Tr × Nat × Nat × Nat:=match lval 64 f l with
 | .ok x=>(x.1,l.length-x.2.length,0,0)
 | .error e=>(tr0,0,e.1,l.length-e.2)
def ReaRes (l:Ln) (f:Bool) (w:World) (e:Ending) (w':World):Prop:=∃ v,e=.returned (.tuple #[v,.int .i64 ((rea l f).2.1:Int),.agg #[.int .i64 ((rea l f).2.2.1:Int),.int .i64 ((rea l f).2.2.2:Int)]])/\TrP w.heap.size w' 65 v (rea l f).1/\Below w.heap.size w w'
theorem trP0 {c:Nat}:TrP c w 65 (.agg zT) tr0:=TrP.leaf (c:=c) (w:=w) 0 [] [] (by decide) (by simp) (by simp) 64
theorem read0_any (l:Ln) (fl:Bool) (hle:l.length<=65536) (hT:Tb w):Calls Tryz.prog 81 #[.string (mk l),.bool fl] w fun e w'=>ReaRes l fl w e w':=by
 have hx0:=((Bx.new w zT 24).later (below_alloc (w.alloc (.cells zT 24)) (.cells zF 33))).later (below_alloc ((w.alloc (.cells zT 24)).alloc (.cells zF 33)) (.cells #[.string (mk l),.int .i64 0,.int .i64 0] 161));have hx1:=(Bx.new (w.alloc (.cells zT 24)) zF 33).later (below_alloc ((w.alloc (.cells zT 24)).alloc (.cells zF 33)) (.cells #[.string (mk l),.int .i64 0,.int .i64 0] 161));have hx2:=Bx.new ((w.alloc (.cells zT 24)).alloc (.cells zF 33)) #[.string (mk l),.int .i64 0,.int .i64 0] 161;have e1:(w.alloc (.cells zT 24)).heap.size=w.heap.size+1:=by simp
 have e2:((w.alloc (.cells zT 24)).alloc (.cells zF 33)).heap.size=w.heap.size+1+1:=by simp
 rw[e1]at hx1;rw[e2]at hx2;have hbl:Below w.heap.size w (((w.alloc (.cells zT 24)).alloc (.cells zF 33)).alloc (.cells #[.string (mk l),.int .i64 0,.int .i64 0] 161)):=(below_alloc _ _).trans (((below_alloc _ _).mono (by simp)).trans ((below_alloc _ _).mono (by simp;omega)));go_enter Tryz.func81,Tryz.ntmps81;go_wp2_with fail;change Calls _ _ _ (((w.alloc (.cells zT 24)).alloc (.cells zF 33)).alloc (.cells #[.string (mk l),.int .i64 0,.int .i64 0] 161)) _;generalize ((w.alloc (.cells zT 24)).alloc (.cells zF 33)).alloc (.cells #[.string (mk l),.int .i64 0,.int .i64 0] 161)=W at hx0 hx1 hx2 hbl |-;clear e1 e2;have hk1:w.heap.size<w.heap.size+1:=by omega
 have hk2:w.heap.size+1<w.heap.size+1+1:=by omega
 have hk3:w.heap.size<=w.heap.size+1+1:=by omega
 generalize hB:w.heap.size+1+1=B at hx2 hk2 hk3 |-;generalize hK1:w.heap.size+1=K1 at hx1 hk1 hk2 |-;generalize hK0:w.heap.size=K0 at hx0 hk1 |-;have HS:Hid (SW w W K0 K1):=⟨hx0,hx1,hbl,Nat.le_of_eq hK0,hk1⟩;have hR:Rd W B l 0 0:=hx2;have hTB:TbB B W:=⟨w,hT,hk3,hbl⟩
 have HVA:Hid (Calls Tryz.prog 108 #[.pointer (some ⟨B,0,none⟩),.bool fl] W fun e w'=>ValRes B l 0 W 65 (lval 64 fl l) e w'):=by
  have:=value_all 64 0 (by omega) B l fl W 0 hR (Nat.zero_le _) hle hTB
  rwa [List.drop_zero]at this
 have HWL:Hid (rea l fl=match lval 64 fl l with
   | .ok x=>(x.1,l.length-x.2.length,0,0)
   | .error e=>(tr0,0,e.1,l.length-e.2)):=rfl
 have HWB:Hid (B<W.heap.size):=hx2.lt;clear hB hK1 hK0 hx0 hx1 hx2 hbl hR hTB hk1 hk3 hT;refine HVA.out.mono ?_;intro e w3 hres;have hvb:=lval_bad 64 fl l;generalize hlv:lval 64 fl l=r at hres HWL hvb;clear HVA
 cases r with
 | error F =>
  obtain⟨v,t,ht,rfl,hf3⟩:=hres;obtain⟨k2,x2,a2,ad2,len2,cap2,rfl⟩:=ht.cells;have hF0:=hvb F rfl;have HV:Hid (rea l fl=(tr0,0,F.1,l.length-F.2)):=HWL.out;unfold fv;have HS3:Hid (SW w w3 K0 K1):=HS.out.fr hf3 hk2;clear hf3 ht HS HWL hvb;have hb4:Below w3.heap.size w3 ((w3.alloc (.cells #[.int .i64 k2,.string x2,.string a2,.slice ad2 len2 cap2] 24)).alloc (.cells #[.int .i64 (F.1:Int),.int .i64 ((l.length-F.2:Nat):Int)] 33)):=(below_alloc _ _).trans ((below_alloc _ _).mono (by simp));have hS4:SW w ((w3.alloc (.cells #[.int .i64 k2,.string x2,.string a2,.slice ad2 len2 cap2] 24)).alloc (.cells #[.int .i64 (F.1:Int),.int .i64 ((l.length-F.2:Nat):Int)] 33)) K0 K1:=HS3.out.later hb4;have hT4:=(Bx.new w3 #[.int .i64 k2,.string x2,.string a2,.slice ad2 len2 cap2] 24).later (below_alloc (w3.alloc (.cells #[.int .i64 k2,.string x2,.string a2,.slice ad2 len2 cap2] 24)) (.cells #[.int .i64 (F.1:Int),.int .i64 ((l.length-F.2:Nat):Int)] 33));have hF4:=Bx.new (w3.alloc (.cells #[.int .i64 k2,.string x2,.string a2,.slice ad2 len2 cap2] 24)) #[.int .i64 (F.1:Int),.int .i64 ((l.length-F.2:Nat):Int)] 33;rw[show (w3.alloc (.cells #[.int .i64 k2,.string x2,.string a2,.slice ad2 len2 cap2] 24)).heap.size=w3.heap.size+1 by simp]at hF4;have hq0:K0<w3.heap.size:=HS3.out.k0.lt;have hq1:K1<w3.heap.size:=HS3.out.k1.lt;go_upto_region 4 with fail
  generalize ((w3.alloc (.cells #[.int .i64 k2,.string x2,.string a2,.slice ad2 len2 cap2] 24)).alloc (.cells #[.int .i64 (F.1:Int),.int .i64 ((l.length-F.2:Nat):Int)] 33))=w4 at hb4 hS4 hT4 hF4 |-;have HB4:Hid (Below w3.heap.size w3 w4):=hb4;clear hb4;have hq2:w3.heap.size<w3.heap.size+1:=by omega
  generalize w3.heap.size+1=KF at hF4 hq2 |-;generalize hKT:w3.heap.size=KT at hT4 hq0 hq1 hq2 |-;clear hKT;have HS4:Hid (SW w w4 K0 K1):=hS4;have HT4:Hid (Bx w4 KT #[.int .i64 k2,.string x2,.string a2,.slice ad2 len2 cap2] 24):=hT4;have HF4:Hid (Bx w4 KF #[.int .i64 (F.1:Int),.int .i64 ((l.length-F.2:Nat):Int)] 33):=hF4;obtain⟨i0,i1⟩:=hF4.c2;obtain⟨t0,t1,t2,t3⟩:=hT4.c4;have hkf1:KF≠K0:=by omega
  have hkf2:K0≠KF:=by omega
  have hkf3:KF≠K1:=by omega
  have hkf4:K1≠KF:=by omega
  clear hS4 hT4 hF4;obtain⟨X0,X1,X2,X3,Y0,Y1,Z0,Z1,Z2,Z3,V0,V1⟩:=HS4.out.c;have hd10:K1≠K0:=by have:=HS4.out.h1;omega
  have hd01:K0≠K1:=by omega
  have hF1:((F.1:Int)==0)=false:=by rw[beq_eq_false_iff_ne];omega
  have hF2:((F.1:Int)!=0)=true:=by simpa using hF0
  clear hF0;go_wp2;go_region
  all_goals
   go_wp2;have hO:=HS4.out.out (.int .i64 0) (.string ⟨#[]⟩) (.string ⟨#[]⟩) (.slice none 0 0) (.int .i64 (F.1:Int)) (.int .i64 ((l.length-F.2:Nat):Int));change bodyPost _ _ _ _ _ (fill6 w4 K0 K1 (.int .i64 0) (.string ⟨#[]⟩) (.string ⟨#[]⟩) (.slice none 0 0) (.int .i64 (F.1:Int)) (.int .i64 ((l.length-F.2:Nat):Int))).drew;generalize fill6 w4 K0 K1 (.int .i64 0) (.string ⟨#[]⟩) (.string ⟨#[]⟩) (.slice none 0 0) (.int .i64 (F.1:Int)) (.int .i64 ((l.length-F.2:Nat):Int))=WF at hO |-;obtain⟨o2,o3,o4⟩:=hO;have j0:WF.drew.cell? ⟨K0,0,none⟩=_:=o3.cell 0;have j1:WF.drew.cell? ⟨K0,1,none⟩=_:=o3.cell 1;have j2:WF.drew.cell? ⟨K0,2,none⟩=_:=o3.cell 2;have j3:WF.drew.cell? ⟨K0,3,none⟩=_:=o3.cell 3;have j4:WF.drew.cell? ⟨K1,0,none⟩=_:=o4.cell 0;have j5:WF.drew.cell? ⟨K1,1,none⟩=_:=o4.cell 1;replace o2:=o2.drew;refine bodyPost_ret (v:=.tuple #[.agg #[.int .i64 0,.string ⟨#[]⟩,.string ⟨#[]⟩,.slice none 0 0],.int .i64 0,.agg #[.int .i64 (F.1:Int),.int .i64 ((l.length-F.2:Nat):Int)]]) (by simp[results,Tryz.results81,go_sem,j0,j1,j2,j3,j4,j5]) rfl ?_;exact⟨_,by rw[HV.out];rfl,by rw[HV.out];exact trP0,o2⟩
 | ok r =>
  obtain⟨t,l'⟩:=r;obtain⟨v,rfl,ht,⟨q,hq,hl',hr3⟩,hf3⟩:=hres;simp only at ht hl';subst hl';obtain⟨k2,x2,a2,ad2,len2,cap2,rfl⟩:=ht.cells;unfold f0;have HS3:Hid (SW w w3 K0 K1):=HS.out.fr hf3 hk2;have HR3:Hid (Rd w3 B l q 0):=hr3;have HTP3:Hid (TrP W.heap.size w3 65 (.agg #[.int .i64 k2,.string x2,.string a2,.slice ad2 len2 cap2]) t):=ht;clear hf3 ht hr3 HS hvb hlv;have hb4:Below w3.heap.size w3 ((w3.alloc (.cells #[.int .i64 k2,.string x2,.string a2,.slice ad2 len2 cap2] 24)).alloc (.cells #[.int .i64 0,.int .i64 0] 33)):=(below_alloc _ _).trans ((below_alloc _ _).mono (by simp));have hS4:SW w ((w3.alloc (.cells #[.int .i64 k2,.string x2,.string a2,.slice ad2 len2 cap2] 24)).alloc (.cells #[.int .i64 0,.int .i64 0] 33)) K0 K1:=HS3.out.later hb4;have hT4:=(Bx.new w3 #[.int .i64 k2,.string x2,.string a2,.slice ad2 len2 cap2] 24).later (below_alloc (w3.alloc (.cells #[.int .i64 k2,.string x2,.string a2,.slice ad2 len2 cap2] 24)) (.cells #[.int .i64 0,.int .i64 0] 33));have hF4:=Bx.new (w3.alloc (.cells #[.int .i64 k2,.string x2,.string a2,.slice ad2 len2 cap2] 24)) #[.int .i64 0,.int .i64 0] 33;rw[show (w3.alloc (.cells #[.int .i64 k2,.string x2,.string a2,.slice ad2 len2 cap2] 24)).heap.size=w3.heap.size+1 by simp]at hF4;have hq0:K0<w3.heap.size:=HS3.out.k0.lt;have hq1:K1<w3.heap.size:=HS3.out.k1.lt;go_upto_region 4 with fail
  generalize ((w3.alloc (.cells #[.int .i64 k2,.string x2,.string a2,.slice ad2 len2 cap2] 24)).alloc (.cells #[.int .i64 0,.int .i64 0] 33))=w4 at hb4 hS4 hT4 hF4 |-;have HB4:Hid (Below w3.heap.size w3 w4):=hb4;clear hb4;have hq2:w3.heap.size<w3.heap.size+1:=by omega
  generalize w3.heap.size+1=KF at hF4 hq2 |-;generalize hKT:w3.heap.size=KT at hT4 hq0 hq1 hq2 |-;clear hKT;have HS4:Hid (SW w w4 K0 K1):=hS4;have HT4:Hid (Bx w4 KT #[.int .i64 k2,.string x2,.string a2,.slice ad2 len2 cap2] 24):=hT4;have HF4:Hid (Bx w4 KF #[.int .i64 0,.int .i64 0] 33):=hF4;obtain⟨i0,i1⟩:=hF4.c2;obtain⟨t0,t1,t2,t3⟩:=hT4.c4;have hkf1:KF≠K0:=by omega
  have hkf2:K0≠KF:=by omega
  have hkf3:KF≠K1:=by omega
  have hkf4:K1≠KF:=by omega
  clear hS4 hT4 hF4;obtain⟨X0,X1,X2,X3,Y0,Y1,Z0,Z1,Z2,Z3,V0,V1⟩:=HS4.out.c;have hd10:K1≠K0:=by have:=HS4.out.h1;omega
  have hd01:K0≠K1:=by omega
  have HR4:Hid (Rd w4 B l q 0):=HR3.out.later HB4.out;have HTP4:Hid (TrP W.heap.size w4 65 (.agg #[.int .i64 k2,.string x2,.string a2,.slice ad2 len2 cap2]) t):=HTP3.out.later HB4.out
  have HV:Hid (rea l fl=(t,q,0,0)):=by
   have:=HWL.out;simp only[List.length_drop]at this;rw[show l.length-(l.length-q)=q by omega]at this;exact this
  have rd1:w4.cell? ⟨B,1,none⟩=some (.int .i64 (q:Int)):=HR4.out.c1;have hKW0:K0<W.heap.size:=by have:=HWB.out;have:=HS4.out.h1;omega
  have hKW1:K1<W.heap.size:=by have:=HWB.out;omega
  have htf:TrP w.heap.size (fill6 w4 K0 K1 (.int .i64 k2) (.string x2) (.string a2) (.slice ad2 len2 cap2) (.int .i64 0) (.int .i64 0)) 65 (.agg #[.int .i64 k2,.string x2,.string a2,.slice ad2 len2 cap2]) t:=TrP.mono (c:=W.heap.size) (Nat.le_trans HS4.out.h0 (Nat.le_of_lt hKW0)) ((((((HTP4.out.set hKW0).set hKW0).set hKW0).set hKW0).set hKW1).set hKW1);have HTF:Hid (TrP w.heap.size (fill6 w4 K0 K1 (.int .i64 k2) (.string x2) (.string a2) (.slice ad2 len2 cap2) (.int .i64 0) (.int .i64 0)) 65 (.agg #[.int .i64 k2,.string x2,.string a2,.slice ad2 len2 cap2]) t):=htf;clear htf HWL;have hB0:K0<B:=by have:=HS4.out.h1;omega
  have nb1:B≠K0:=by omega
  have nb2:K0≠B:=by omega
  have nb3:B≠K1:=by omega
  have nb4:K1≠B:=by omega
  go_wp2;go_region
  all_goals
   go_wp2;have hO:=HS4.out.out (.int .i64 k2) (.string x2) (.string a2) (.slice ad2 len2 cap2) (.int .i64 0) (.int .i64 0);have htf:=HTF.out;change bodyPost _ _ _ _ _ (fill6 w4 K0 K1 (.int .i64 k2) (.string x2) (.string a2) (.slice ad2 len2 cap2) (.int .i64 0) (.int .i64 0)).drew;clear HTF;generalize fill6 w4 K0 K1 (.int .i64 k2) (.string x2) (.string a2) (.slice ad2 len2 cap2) (.int .i64 0) (.int .i64 0)=WF at hO htf |-;obtain⟨o2,o3,o4⟩:=hO;have j0:WF.drew.cell? ⟨K0,0,none⟩=_:=o3.cell 0;have j1:WF.drew.cell? ⟨K0,1,none⟩=_:=o3.cell 1;have j2:WF.drew.cell? ⟨K0,2,none⟩=_:=o3.cell 2;have j3:WF.drew.cell? ⟨K0,3,none⟩=_:=o3.cell 3;have j4:WF.drew.cell? ⟨K1,0,none⟩=_:=o4.cell 0;have j5:WF.drew.cell? ⟨K1,1,none⟩=_:=o4.cell 1;refine bodyPost_ret (v:=.tuple #[.agg #[.int .i64 k2,.string x2,.string a2,.slice ad2 len2 cap2],.int .i64 (q:Int),.agg #[.int .i64 0,.int .i64 0]]) (by simp[results,Tryz.results81,go_sem,j0,j1,j2,j3,j4,j5]) rfl ?_;exact⟨_,by rw[HV.out];rfl,by rw[HV.out];exact htf.later (Below.refl WF.heap.size WF).drew,o2.drew⟩
end Flw
namespace Tre
open Utf Rws Pln Flw
open Go.RowKit
open Blk (Rw RwAt z3)
set_option maxHeartbeats 8000000
def eLn (l:Ln):Bool:=gaps l==[] || (gaps l != l && noth (gaps l))
theorem endsLine_any (l:Ln) (w:World) (hl:l.length<=140737488351232):Calls Tryz.prog 82 #[.string (mk l)] w fun e w'=>e=.returned (.bool (eLn l))/\w=w':=by
 have hg:=gaps_len l;have HW:Hid (Calls Tryz.prog 49 #[.string (mk l)] w fun e w'=>e=.returned (.string (mk (gaps l)))/\w=w'):=withoutBlanks_any l w (by omega);have HE:Hid (Calls Tryz.prog 33 #[.string (mk (gaps l))] w fun e w'=>e=.returned (.bool (noth (gaps l)))/\w=w'):=isEmpty_any _ w (by omega);have HV:Hid (eLn l=(gaps l==[] || (gaps l != l && noth (gaps l)))):=rfl;have e1:((mk (gaps l)).toList==[])=(gaps l==[]):=by rw[ByteArray.toList_eq,mk_data]
 have e2:(mk (gaps l)).toList.isEmpty=(gaps l==[]):=by rw[ByteArray.toList_eq,mk_data];cases gaps l<;>rfl
 have e3:((mk (gaps l)).toList==(mk l).toList)=(gaps l==l):=beq_mk _ _;have e4:((mk (gaps l)).toList != (mk l).toList)=(gaps l != l):=by unfold bne;rw[e3]
 cases h1:(gaps l==[])
 ·rw[h1]at e1 e2 HV;cases h2:(gaps l==l)
  ·have h3:(gaps l != l)=true:=by unfold bne;rw[h2];rfl
   rw[h2]at e3;rw[h3]at e4 HV;clear h1 h2 h3;generalize gaps l=g at *;go_enter Tryz.func82,Tryz.ntmps82;go_wp2_with (first | (go_at_call 49;refine HW.out.mono ?_;rintro e w' ⟨rfl,rfl⟩) | (go_at_call 33;refine HE.out.mono ?_;rintro e w' ⟨rfl,rfl⟩));go_ret;exact⟨by rw[HV.out];rfl,rfl⟩
  ·have h3:(gaps l != l)=false:=by unfold bne;rw[h2];rfl
   rw[h2]at e3;rw[h3]at e4 HV;clear h1 h2 h3 HE;generalize gaps l=g at *;go_enter Tryz.func82,Tryz.ntmps82;go_wp2_with (first | (go_at_call 49;refine HW.out.mono ?_;rintro e w' ⟨rfl,rfl⟩));go_ret;exact⟨by rw[HV.out];rfl,rfl⟩
 ·rw[h1]at e1 e2 HV;clear h1 e3 e4 HE;generalize gaps l=g at *;go_enter Tryz.func82,Tryz.ntmps82;go_wp2_with (first | (go_at_call 49;refine HW.out.mono ?_;rintro e w' ⟨rfl,rfl⟩));go_ret;exact⟨by rw[HV.out];rfl,rfl⟩
def lnM (c z:Int) (l:Ln) (rs:List Rw):Tr × Int × Int :=
 if (rea l false).2.2.1≠0 then ((rea l false).1,((rea l false).2.2.1:Int),z)else if eLn (l.drop (rea l false).2.1)=false then ((rea l false).1,3,z)else ((rea l false).1,stE c rs,stA rs)
def TfRes (r:Tr × Int × Int) (w:World) (e:Ending) (w':World):Prop:=∃ v,e=.returned (.tuple #[v,fV r.2.1 r.2.2])/\TrP w.heap.size w' 65 v r.1/\Below w.heap.size w w'
def TfD (d:Nat) (r:Tr × Int × Int) (w:World) (e:Ending) (w':World):Prop:=∃ v,e=.returned (.tuple #[v,fV r.2.1 r.2.2])/\TrP w.heap.size w' d v r.1/\Below w.heap.size w w'
theorem TfRes.deep {d:Nat} {r:Tr × Int × Int} {w w':World} {e:Ending} (h:TfRes r w e w') (hd:65<=d):TfD d r w e w':=by
 obtain⟨v,h1,h2,h3⟩:=h;exact⟨v,h1,h2.more hd,h3⟩
theorem three_new (w:World) (c0 c1 c2:Array Value) (t0 t1 t2:TypeId) :
  Below w.heap.size w (((w.alloc (.cells c0 t0)).alloc (.cells c1 t1)).alloc (.cells c2 t2))/\Bx (((w.alloc (.cells c0 t0)).alloc (.cells c1 t1)).alloc (.cells c2 t2)) w.heap.size c0 t0 /\
  Bx (((w.alloc (.cells c0 t0)).alloc (.cells c1 t1)).alloc (.cells c2 t2)) (w.heap.size+1) c1 t1/\Bx (((w.alloc (.cells c0 t0)).alloc (.cells c1 t1)).alloc (.cells c2 t2)) (w.heap.size+1+1) c2 t2:=by
 have s1:(w.alloc (.cells c0 t0)).heap.size=w.heap.size+1:=World.size_alloc _ _;have s2:((w.alloc (.cells c0 t0)).alloc (.cells c1 t1)).heap.size=w.heap.size+1+1:=by rw[World.size_alloc,s1]
 have b1:=below_alloc w (.cells c0 t0);have b2:=below_alloc (w.alloc (.cells c0 t0)) (.cells c1 t1);have b3:=below_alloc ((w.alloc (.cells c0 t0)).alloc (.cells c1 t1)) (.cells c2 t2);have n0:=((Bx.new w c0 t0).later b2).later b3;have n1:=(Bx.new (w.alloc (.cells c0 t0)) c1 t1).later b3;have n2:=Bx.new ((w.alloc (.cells c0 t0)).alloc (.cells c1 t1)) c2 t2;rw[s1]at n1;rw[s2]at n2;have a2:=b1.trans (b2.mono b1.size);exact⟨a2.trans (b3.mono a2.size),n0,n1,n2⟩
theorem two_tf (w:World) (c f:Array Value):Below w.heap.size w ((w.alloc (.cells c 24)).alloc (.cells f 33))/\Bx ((w.alloc (.cells c 24)).alloc (.cells f 33)) w.heap.size c 24 /\
  Bx ((w.alloc (.cells c 24)).alloc (.cells f 33)) (w.heap.size+1) f 33:=by
 have a1:=below_alloc w (.cells c 24);have s1:(w.alloc (.cells c 24)).heap.size=w.heap.size+1:=World.size_alloc _ _;have a2:=below_alloc (w.alloc (.cells c 24)) (.cells f 33);have n2:=Bx.new (w.alloc (.cells c 24)) f 33;rw[s1]at n2;exact⟨a1.trans (a2.mono a1.size),(Bx.new w _ _).later a2,n2⟩
theorem lineOf_any (c:Int) (x:Ln) (z:Int) (l:Ln) (a:Option Addr) (len cap:Nat) (rs:List Rw) (w:World) (hl:l.length<=65536) (hT:Tb w) (h:RowsIn w a len cap rs) :
  Calls Tryz.prog 60 #[rV c x z,.string (mk l),.slice a len cap] w fun e w'=>TfRes (lnM c z l rs) w e w':=by
 have N3:Hid (_/\_/\_/\_):=three_new w #[.int .i64 c,.string (mk x),.int .i64 z] zT #[.int .i64 0,.int .i64 0] 45 24 33;have HRD:Hid (∀ w0,Below w.heap.size w w0->Calls Tryz.prog 81 #[.string (mk l),.bool false] w0 fun e w'=>ReaRes l false w0 e w'):=fun w0 b=>read0_any l false hl (hT.later b)
 go_enter Tryz.func60,Tryz.ntmps60;go_wp2_with fail;change Calls _ _ _ (((w.alloc (.cells #[.int .i64 c,.string (mk x),.int .i64 z] 45)).alloc (.cells zT 24)).alloc (.cells #[.int .i64 0,.int .i64 0] 33)) _;generalize ((w.alloc (.cells #[.int .i64 c,.string (mk x),.int .i64 z] 45)).alloc (.cells zT 24)).alloc (.cells #[.int .i64 0,.int .i64 0] 33)=W at N3 |-;obtain⟨K2,hK2⟩:∃ K,K=w.heap.size+1+1:=⟨_,rfl⟩;obtain⟨K1,hK1⟩:∃ K,K=w.heap.size+1:=⟨_,rfl⟩;obtain⟨K0,hK0⟩:∃ K,K=w.heap.size:=⟨_,rfl⟩;rw[<-hK2,<-hK1,<-hK0]at N3;rw[<-hK2,<-hK1,<-hK0];have hwW:w.heap.size<=K0/\K0<K1/\K1<K2:=by omega
 have HN:Hid (Below w.heap.size w W/\Bx W K0 #[.int .i64 c,.string (mk x),.int .i64 z] 45/\Bx W K1 zT 24/\Bx W K2 #[.int .i64 0,.int .i64 0] 33):=by
  have:=N3.out;rw[hK0]at this |-;exact this
 clear N3 hK0 hK1 hK2;refine(HRD.out W HN.out.1).mono ?_;rintro e w3 ⟨v,rfl,ht,hb3⟩;obtain⟨k2,x2,a2,ad2,len2,cap2,rfl⟩:=ht.cells;have HT3:Hid (TrP W.heap.size w3 65 (.agg #[.int .i64 k2,.string x2,.string a2,.slice ad2 len2 cap2]) (rea l false).1):=ht;have HB3:Hid (Below W.heap.size W w3):=hb3;have hK2W:K2<W.heap.size:=HN.out.2.2.2.lt;clear ht hb3 HRD;have HLM:Hid (lnM c z l rs=if (rea l false).2.2.1≠0 then ((rea l false).1,((rea l false).2.2.1:Int),z)else if eLn (l.drop (rea l false).2.1)=false then ((rea l false).1,3,z)else ((rea l false).1,stE c rs,stA rs)):=rfl;have hnl:(rea l false).2.1<=l.length:=by unfold rea;split<;>simp only<;>omega
 generalize (rea l false).1=T at *;generalize (rea l false).2.1=n at *;generalize (rea l false).2.2.1=y at *;generalize (rea l false).2.2.2=zz at *;have N2:Hid (_/\_/\_):=two_tf w3 #[.int .i64 k2,.string x2,.string a2,.slice ad2 len2 cap2] #[.int .i64 (y:Int),.int .i64 (zz:Int)];go_upto_region 3 with fail
 generalize (w3.alloc (.cells #[.int .i64 k2,.string x2,.string a2,.slice ad2 len2 cap2] 24)).alloc (.cells #[.int .i64 (y:Int),.int .i64 (zz:Int)] 33)=w4 at N2 |-;have hK3:W.heap.size<=w3.heap.size:=HB3.out.size;obtain⟨KF,hKF⟩:∃ K,K=w3.heap.size+1:=⟨_,rfl⟩;obtain⟨KT,hKT⟩:∃ K,K=w3.heap.size:=⟨_,rfl⟩;rw[<-hKF,<-hKT]at N2;rw[<-hKF,<-hKT];have G4:Hid (Below W.heap.size W w4):=HB3.out.trans (N2.out.1.mono (by omega))
 have HS4:Hid (Below w.heap.size w w4/\Bx w4 K0 #[.int .i64 c,.string (mk x),.int .i64 z] 45/\Bx w4 K1 zT 24/\Bx w4 K2 #[.int .i64 0,.int .i64 0] 33/\Bx w4 KT #[.int .i64 k2,.string x2,.string a2,.slice ad2 len2 cap2] 24/\Bx w4 KF #[.int .i64 (y:Int),.int .i64 (zz:Int)] 33/\Below w3.heap.size w3 w4) :=
  ⟨HN.out.1.trans (G4.out.mono HN.out.1.size),HN.out.2.1.later G4.out,HN.out.2.2.1.later G4.out,HN.out.2.2.2.later G4.out,N2.out.2.1,N2.out.2.2,(by have h:=N2.out.1;rw[hKT]at h;exact h)⟩
 have hq1:K1<W.heap.size:=by omega
 have nz:K0≠K1/\K0≠K2/\K1≠K0/\K1≠K2/\K2≠K0/\K2≠K1:=by omega
 have ny:KF≠K0/\KF≠K1/\KF≠K2/\KF≠KT/\KT≠K0/\KT≠K1/\KT≠K2/\KT≠KF/\K0≠KF/\K1≠KF/\K2≠KF/\K0≠KT/\K1≠KT/\K2≠KT:=by omega
 obtain⟨o1,o2,o3,o4,o5,o6⟩:=nz;obtain⟨p1,p2,p3,p4,p5,p6,p7,p8,p9,p10,p11,p12,p13,p14⟩:=ny;have hHR:RowsIn w4 a len cap rs:=h.later HS4.out.1;have HRW:Hid (RowsIn w4 a len cap rs):=hHR;have hwKF:w.heap.size<=KF:=by omega
 have HKF:Hid (w3.heap.size<=KF):=by show _<=_;omega
 clear N2 hKF hKT G4 HB3 HN hHR h hK3;by_cases hy:y≠0
 ·have HV:Hid (lnM c z l rs=(T,(y:Int),z)):=HLM.out.trans (if_pos hy);have qy:((y:Int)!=0)=true:=by simpa using hy
  clear HLM;obtain⟨i0,i1⟩:=HS4.out.2.2.2.2.2.1.c2;obtain⟨t0,t1,t2,t3⟩:=HS4.out.2.2.2.2.1.c4;obtain⟨r0,r1,r2⟩:=HS4.out.2.1.c3;have g0:=HS4.out.2.2.2.2.2.1.fz 0;have g1:=HS4.out.2.2.2.2.2.1.fz 1;obtain⟨d0,d1,d2,d3,d4,d5,z0,z1,z2,z3,z4,z5⟩:=c6_of HS4.out.2.2.1 HS4.out.2.2.2.1
  have HS7:Hid (∀ w7,w7=w4.setCell ⟨KF,1,none⟩ (.int .i64 z)->(Below w.heap.size w w7/\Bx w7 K0 #[.int .i64 c,.string (mk x),.int .i64 z] 45/\Bx w7 K1 zT 24/\Bx w7 K2 #[.int .i64 0,.int .i64 0] 33/\Bx w7 KT #[.int .i64 k2,.string x2,.string a2,.slice ad2 len2 cap2] 24/\Bx w7 KF #[.int .i64 (y:Int),.int .i64 z] 33/\Below w3.heap.size w3 w7)):=fun w7 e=>by
   subst e;exact⟨HS4.out.1.setCell (by show _<=KF;omega) _,HS4.out.2.1.other (by omega) _ _,HS4.out.2.2.1.other (by omega) _ _,HS4.out.2.2.2.1.other (by omega) _ _,HS4.out.2.2.2.2.1.other (by omega) _ _,HS4.out.2.2.2.2.2.1.set 1 _,HS4.out.2.2.2.2.2.2.setCell (show w3.heap.size<=KF from HKF.out) _⟩
  go_upto_region 7 with fail
  have HS8:Hid _:=HS7.out _ rfl;clear HS7;generalize w4.setCell ⟨KF,1,none⟩ (.int .i64 z)=w7 at HS8 |-;replace HS8:Hid (Below w.heap.size w w7/\Bx w7 K0 #[.int .i64 c,.string (mk x),.int .i64 z] 45/\Bx w7 K1 zT 24/\Bx w7 K2 #[.int .i64 0,.int .i64 0] 33/\Bx w7 KT #[.int .i64 k2,.string x2,.string a2,.slice ad2 len2 cap2] 24/\Bx w7 KF #[.int .i64 (y:Int),.int .i64 z] 33/\Below w3.heap.size w3 w7):=HS8;clear i0 i1 t0 t1 t2 t3 r0 r1 r2 g0 g1 d0 d1 d2 d3 d4 d5 z0 z1 z2 z3 z4 z5;obtain⟨i0,i1⟩:=HS8.out.2.2.2.2.2.1.c2;obtain⟨t0,t1,t2,t3⟩:=HS8.out.2.2.2.2.1.c4;obtain⟨r0,r1,r2⟩:=HS8.out.2.1.c3;have g0:=HS8.out.2.2.2.2.2.1.fz 0;have g1:=HS8.out.2.2.2.2.2.1.fz 1;obtain⟨d0,d1,d2,d3,d4,d5,z0,z1,z2,z3,z4,z5⟩:=c6_of HS8.out.2.2.1 HS8.out.2.2.2.1;have HF:Hid (_/\_/\_):=fill6_is HS8.out.2.2.1 HS8.out.2.2.2.1 (by omega) HS8.out.1 (by omega) (by omega) (.int .i64 k2) (.string x2) (.string a2) (.slice ad2 len2 cap2) (.int .i64 (y:Int)) (.int .i64 z)
  have HTF:Hid (TrP w.heap.size (fill6 w7 K1 K2 (.int .i64 k2) (.string x2) (.string a2) (.slice ad2 len2 cap2) (.int .i64 (y:Int)) (.int .i64 z)) 65 (.agg #[.int .i64 k2,.string x2,.string a2,.slice ad2 len2 cap2]) T) :=
   TrP.mono (c:=W.heap.size) (by omega) (((((((HT3.out.later HS8.out.2.2.2.2.2.2).set hq1).set hq1).set hq1).set hq1).set hK2W).set hK2W)
  clear HS8 HT3;go_wp2_with fail;go_region
  all_goals
   go_wp2;change bodyPost _ _ _ _ _ (fill6 w7 K1 K2 (.int .i64 k2) (.string x2) (.string a2) (.slice ad2 len2 cap2) (.int .i64 (y:Int)) (.int .i64 z)).drew;generalize fill6 w7 K1 K2 (.int .i64 k2) (.string x2) (.string a2) (.slice ad2 len2 cap2) (.int .i64 (y:Int)) (.int .i64 z)=WF at HF HTF |-;have j0:WF.drew.cell? ⟨K1,0,none⟩=_:=HF.out.2.1.cell 0;have j1:WF.drew.cell? ⟨K1,1,none⟩=_:=HF.out.2.1.cell 1;have j2:WF.drew.cell? ⟨K1,2,none⟩=_:=HF.out.2.1.cell 2;have j3:WF.drew.cell? ⟨K1,3,none⟩=_:=HF.out.2.1.cell 3;have j4:WF.drew.cell? ⟨K2,0,none⟩=_:=HF.out.2.2.cell 0;have j5:WF.drew.cell? ⟨K2,1,none⟩=_:=HF.out.2.2.cell 1;refine bodyPost_ret (v:=.tuple #[.agg #[.int .i64 k2,.string x2,.string a2,.slice ad2 len2 cap2],.agg #[.int .i64 (y:Int),.int .i64 z]]) (by simp[results,Tryz.results60,go_sem,j0,j1,j2,j3,j4,j5]) rfl ?_;exact⟨_,by rw[HV.out],by rw[HV.out];exact HTF.out.later (Below.refl WF.heap.size WF).drew,HF.out.1.drew⟩
 ·have hy0:y=0:=by omega
  subst hy0;have hext:(mk l).extract n l.length=mk (l.drop n):=by rw[mk_ext];congr 1;rw[List.take_of_length_le (by simp)]
  have hsz:=mk_size l;have HEL:Hid (∀ w0,Calls Tryz.prog 82 #[.string (mk (l.drop n))] w0 fun e w'=>e=.returned (.bool (eLn (l.drop n)))/\w0=w'):=fun w0=>endsLine_any _ w0 (by rw[List.length_drop];omega)
  clear hy;rw[show ((0:Nat):Int)=0 from rfl]at HS4;rw[show ((0:Nat):Int)=0 from rfl];cases he:eLn (l.drop n)
  ·have HV:Hid (lnM c z l rs=(T,3,z)):=by rw[HLM.out,if_neg (by simp),he];exact rfl
   rw[he]at HEL;clear HLM he HRW;generalize mk (l.drop n)=dr at *;obtain⟨i0,i1⟩:=HS4.out.2.2.2.2.2.1.c2;obtain⟨t0,t1,t2,t3⟩:=HS4.out.2.2.2.2.1.c4;obtain⟨r0,r1,r2⟩:=HS4.out.2.1.c3;have g0:=HS4.out.2.2.2.2.2.1.fz 0;have g1:=HS4.out.2.2.2.2.2.1.fz 1;obtain⟨d0,d1,d2,d3,d4,d5,z0,z1,z2,z3,z4,z5⟩:=c6_of HS4.out.2.2.1 HS4.out.2.2.2.1;go_wp2_with fail;refine(HEL.out _).mono ?_;rintro e w' ⟨rfl,rfl⟩;go_wp2_with fail;refine(faultOf_any 3 c x z w4).mono ?_;rintro e w5 ⟨rfl,H5⟩;have HS5:Hid (Below w.heap.size w w5/\Bx w5 K0 #[.int .i64 c,.string (mk x),.int .i64 z] 45/\Bx w5 K1 zT 24/\Bx w5 K2 #[.int .i64 0,.int .i64 0] 33/\Bx w5 KT #[.int .i64 k2,.string x2,.string a2,.slice ad2 len2 cap2] 24/\Bx w5 KF #[.int .i64 0,.int .i64 (zz:Int)] 33/\Below w3.heap.size w3 w5):=⟨HS4.out.1.trans (H5.mono HS4.out.1.size),HS4.out.2.1.later H5,HS4.out.2.2.1.later H5,HS4.out.2.2.2.1.later H5,HS4.out.2.2.2.2.1.later H5,HS4.out.2.2.2.2.2.1.later H5,HS4.out.2.2.2.2.2.2.trans (H5.mono HS4.out.2.2.2.2.2.2.size)⟩;clear i0 i1 t0 t1 t2 t3 r0 r1 r2 g0 g1 d0 d1 d2 d3 d4 d5 z0 z1 z2 z3 z4 z5;clear HS4 H5;obtain⟨i0,i1⟩:=HS5.out.2.2.2.2.2.1.c2;obtain⟨t0,t1,t2,t3⟩:=HS5.out.2.2.2.2.1.c4;obtain⟨r0,r1,r2⟩:=HS5.out.2.1.c3;have g0:=HS5.out.2.2.2.2.2.1.fz 0;have g1:=HS5.out.2.2.2.2.2.1.fz 1;obtain⟨d0,d1,d2,d3,d4,d5,z0,z1,z2,z3,z4,z5⟩:=c6_of HS5.out.2.2.1 HS5.out.2.2.2.1
   have HS7:Hid (∀ w7,w7=(w5.setCell ⟨KF,0,none⟩ (.int .i64 3)).setCell ⟨KF,1,none⟩ (.int .i64 z)->(Below w.heap.size w w7/\Bx w7 K0 #[.int .i64 c,.string (mk x),.int .i64 z] 45/\Bx w7 K1 zT 24/\Bx w7 K2 #[.int .i64 0,.int .i64 0] 33/\Bx w7 KT #[.int .i64 k2,.string x2,.string a2,.slice ad2 len2 cap2] 24/\Bx w7 KF #[.int .i64 3,.int .i64 z] 33/\Below w3.heap.size w3 w7)):=fun w7 e=>by
    subst e;exact⟨(HS5.out.1.setCell (by show _<=KF;omega) _).setCell (by show _<=KF;omega) _,(HS5.out.2.1.other (by omega) _ _).other (by omega) _ _,(HS5.out.2.2.1.other (by omega) _ _).other (by omega) _ _,(HS5.out.2.2.2.1.other (by omega) _ _).other (by omega) _ _,(HS5.out.2.2.2.2.1.other (by omega) _ _).other (by omega) _ _,(HS5.out.2.2.2.2.2.1.set 0 _).set 1 _,(HS5.out.2.2.2.2.2.2.setCell (show w3.heap.size<=KF from HKF.out) _).setCell (show w3.heap.size<=KF from HKF.out) _⟩
   go_upto_region 7 with fail
   have HS8:Hid _:=HS7.out _ rfl;clear HS7;generalize (w5.setCell ⟨KF,0,none⟩ (.int .i64 3)).setCell ⟨KF,1,none⟩ (.int .i64 z)=w7 at HS8 |-;replace HS8:Hid (Below w.heap.size w w7/\Bx w7 K0 #[.int .i64 c,.string (mk x),.int .i64 z] 45/\Bx w7 K1 zT 24/\Bx w7 K2 #[.int .i64 0,.int .i64 0] 33/\Bx w7 KT #[.int .i64 k2,.string x2,.string a2,.slice ad2 len2 cap2] 24/\Bx w7 KF #[.int .i64 3,.int .i64 z] 33/\Below w3.heap.size w3 w7):=HS8;clear i0 i1 t0 t1 t2 t3 r0 r1 r2 g0 g1 d0 d1 d2 d3 d4 d5 z0 z1 z2 z3 z4 z5;clear HS5;obtain⟨i0,i1⟩:=HS8.out.2.2.2.2.2.1.c2;obtain⟨t0,t1,t2,t3⟩:=HS8.out.2.2.2.2.1.c4;obtain⟨r0,r1,r2⟩:=HS8.out.2.1.c3;have g0:=HS8.out.2.2.2.2.2.1.fz 0;have g1:=HS8.out.2.2.2.2.2.1.fz 1;obtain⟨d0,d1,d2,d3,d4,d5,z0,z1,z2,z3,z4,z5⟩:=c6_of HS8.out.2.2.1 HS8.out.2.2.2.1;have HF:Hid (_/\_/\_):=fill6_is HS8.out.2.2.1 HS8.out.2.2.2.1 (by omega) HS8.out.1 (by omega) (by omega) (.int .i64 k2) (.string x2) (.string a2) (.slice ad2 len2 cap2) (.int .i64 3) (.int .i64 z)
   have HTF:Hid (TrP w.heap.size (fill6 w7 K1 K2 (.int .i64 k2) (.string x2) (.string a2) (.slice ad2 len2 cap2) (.int .i64 3) (.int .i64 z)) 65 (.agg #[.int .i64 k2,.string x2,.string a2,.slice ad2 len2 cap2]) T) :=
    TrP.mono (c:=W.heap.size) (by omega) (((((((HT3.out.later HS8.out.2.2.2.2.2.2).set hq1).set hq1).set hq1).set hq1).set hK2W).set hK2W)
   clear HS8 HT3;go_wp2_with fail;go_region
   all_goals
    go_wp2;change bodyPost _ _ _ _ _ (fill6 w7 K1 K2 (.int .i64 k2) (.string x2) (.string a2) (.slice ad2 len2 cap2) (.int .i64 3) (.int .i64 z)).drew;generalize fill6 w7 K1 K2 (.int .i64 k2) (.string x2) (.string a2) (.slice ad2 len2 cap2) (.int .i64 3) (.int .i64 z)=WF at HF HTF |-;have j0:WF.drew.cell? ⟨K1,0,none⟩=_:=HF.out.2.1.cell 0;have j1:WF.drew.cell? ⟨K1,1,none⟩=_:=HF.out.2.1.cell 1;have j2:WF.drew.cell? ⟨K1,2,none⟩=_:=HF.out.2.1.cell 2;have j3:WF.drew.cell? ⟨K1,3,none⟩=_:=HF.out.2.1.cell 3;have j4:WF.drew.cell? ⟨K2,0,none⟩=_:=HF.out.2.2.cell 0;have j5:WF.drew.cell? ⟨K2,1,none⟩=_:=HF.out.2.2.cell 1;refine bodyPost_ret (v:=.tuple #[.agg #[.int .i64 k2,.string x2,.string a2,.slice ad2 len2 cap2],.agg #[.int .i64 3,.int .i64 z]]) (by simp[results,Tryz.results60,go_sem,j0,j1,j2,j3,j4,j5]) rfl ?_;exact⟨_,by rw[HV.out],by rw[HV.out];exact HTF.out.later (Below.refl WF.heap.size WF).drew,HF.out.1.drew⟩
  ·have HV:Hid (lnM c z l rs=(T,stE c rs,stA rs)):=by rw[HLM.out,if_neg (by simp),he];exact rfl
   rw[he]at HEL;have HSY:Hid (Calls Tryz.prog 80 #[rV c x z,.slice a len cap] w4 fun e w'=>e=.returned (fV (stE c rs) (stA rs))/\Below w4.heap.size w4 w'):=stray_any c x z a len cap rs w4 HRW.out;clear HLM he HRW;generalize mk (l.drop n)=dr at *;generalize stE c rs=sE at *;generalize stA rs=sA at *;obtain⟨i0,i1⟩:=HS4.out.2.2.2.2.2.1.c2;obtain⟨t0,t1,t2,t3⟩:=HS4.out.2.2.2.2.1.c4;obtain⟨r0,r1,r2⟩:=HS4.out.2.1.c3;have g0:=HS4.out.2.2.2.2.2.1.fz 0;have g1:=HS4.out.2.2.2.2.2.1.fz 1;obtain⟨d0,d1,d2,d3,d4,d5,z0,z1,z2,z3,z4,z5⟩:=c6_of HS4.out.2.2.1 HS4.out.2.2.2.1;go_wp2_with fail;refine(HEL.out _).mono ?_;rintro e w' ⟨rfl,rfl⟩;go_wp2_with fail;refine HSY.out.mono ?_;rintro e w5 ⟨rfl,H5⟩;have HS5:Hid (Below w.heap.size w w5/\Bx w5 K0 #[.int .i64 c,.string (mk x),.int .i64 z] 45/\Bx w5 K1 zT 24/\Bx w5 K2 #[.int .i64 0,.int .i64 0] 33/\Bx w5 KT #[.int .i64 k2,.string x2,.string a2,.slice ad2 len2 cap2] 24/\Bx w5 KF #[.int .i64 0,.int .i64 (zz:Int)] 33/\Below w3.heap.size w3 w5):=⟨HS4.out.1.trans (H5.mono HS4.out.1.size),HS4.out.2.1.later H5,HS4.out.2.2.1.later H5,HS4.out.2.2.2.1.later H5,HS4.out.2.2.2.2.1.later H5,HS4.out.2.2.2.2.2.1.later H5,HS4.out.2.2.2.2.2.2.trans (H5.mono HS4.out.2.2.2.2.2.2.size)⟩;clear i0 i1 t0 t1 t2 t3 r0 r1 r2 g0 g1 d0 d1 d2 d3 d4 d5 z0 z1 z2 z3 z4 z5;clear HS4 H5;obtain⟨i0,i1⟩:=HS5.out.2.2.2.2.2.1.c2;obtain⟨t0,t1,t2,t3⟩:=HS5.out.2.2.2.2.1.c4;obtain⟨r0,r1,r2⟩:=HS5.out.2.1.c3;have g0:=HS5.out.2.2.2.2.2.1.fz 0;have g1:=HS5.out.2.2.2.2.2.1.fz 1;obtain⟨d0,d1,d2,d3,d4,d5,z0,z1,z2,z3,z4,z5⟩:=c6_of HS5.out.2.2.1 HS5.out.2.2.2.1
   have HS7:Hid (∀ w7,w7=(w5.setCell ⟨KF,0,none⟩ (.int .i64 sE)).setCell ⟨KF,1,none⟩ (.int .i64 sA)->(Below w.heap.size w w7/\Bx w7 K0 #[.int .i64 c,.string (mk x),.int .i64 z] 45/\Bx w7 K1 zT 24/\Bx w7 K2 #[.int .i64 0,.int .i64 0] 33/\Bx w7 KT #[.int .i64 k2,.string x2,.string a2,.slice ad2 len2 cap2] 24/\Bx w7 KF #[.int .i64 sE,.int .i64 sA] 33/\Below w3.heap.size w3 w7)):=fun w7 e=>by
    subst e;exact⟨(HS5.out.1.setCell (by show _<=KF;omega) _).setCell (by show _<=KF;omega) _,(HS5.out.2.1.other (by omega) _ _).other (by omega) _ _,(HS5.out.2.2.1.other (by omega) _ _).other (by omega) _ _,(HS5.out.2.2.2.1.other (by omega) _ _).other (by omega) _ _,(HS5.out.2.2.2.2.1.other (by omega) _ _).other (by omega) _ _,(HS5.out.2.2.2.2.2.1.set 0 _).set 1 _,(HS5.out.2.2.2.2.2.2.setCell (show w3.heap.size<=KF from HKF.out) _).setCell (show w3.heap.size<=KF from HKF.out) _⟩
   go_upto_region 7 with fail
   have HS8:Hid _:=HS7.out _ rfl;clear HS7;generalize (w5.setCell ⟨KF,0,none⟩ (.int .i64 sE)).setCell ⟨KF,1,none⟩ (.int .i64 sA)=w7 at HS8 |-;replace HS8:Hid (Below w.heap.size w w7/\Bx w7 K0 #[.int .i64 c,.string (mk x),.int .i64 z] 45/\Bx w7 K1 zT 24/\Bx w7 K2 #[.int .i64 0,.int .i64 0] 33/\Bx w7 KT #[.int .i64 k2,.string x2,.string a2,.slice ad2 len2 cap2] 24/\Bx w7 KF #[.int .i64 sE,.int .i64 sA] 33/\Below w3.heap.size w3 w7):=HS8;clear i0 i1 t0 t1 t2 t3 r0 r1 r2 g0 g1 d0 d1 d2 d3 d4 d5 z0 z1 z2 z3 z4 z5;clear HS5;obtain⟨i0,i1⟩:=HS8.out.2.2.2.2.2.1.c2;obtain⟨t0,t1,t2,t3⟩:=HS8.out.2.2.2.2.1.c4;obtain⟨r0,r1,r2⟩:=HS8.out.2.1.c3;have g0:=HS8.out.2.2.2.2.2.1.fz 0;have g1:=HS8.out.2.2.2.2.2.1.fz 1;obtain⟨d0,d1,d2,d3,d4,d5,z0,z1,z2,z3,z4,z5⟩:=c6_of HS8.out.2.2.1 HS8.out.2.2.2.1;have HF:Hid (_/\_/\_):=fill6_is HS8.out.2.2.1 HS8.out.2.2.2.1 (by omega) HS8.out.1 (by omega) (by omega) (.int .i64 k2) (.string x2) (.string a2) (.slice ad2 len2 cap2) (.int .i64 sE) (.int .i64 sA)
   have HTF:Hid (TrP w.heap.size (fill6 w7 K1 K2 (.int .i64 k2) (.string x2) (.string a2) (.slice ad2 len2 cap2) (.int .i64 sE) (.int .i64 sA)) 65 (.agg #[.int .i64 k2,.string x2,.string a2,.slice ad2 len2 cap2]) T) :=
    TrP.mono (c:=W.heap.size) (by omega) (((((((HT3.out.later HS8.out.2.2.2.2.2.2).set hq1).set hq1).set hq1).set hq1).set hK2W).set hK2W)
   clear HS8 HT3;go_wp2_with fail;go_region
   all_goals
    go_wp2;change bodyPost _ _ _ _ _ (fill6 w7 K1 K2 (.int .i64 k2) (.string x2) (.string a2) (.slice ad2 len2 cap2) (.int .i64 sE) (.int .i64 sA)).drew;generalize fill6 w7 K1 K2 (.int .i64 k2) (.string x2) (.string a2) (.slice ad2 len2 cap2) (.int .i64 sE) (.int .i64 sA)=WF at HF HTF |-;have j0:WF.drew.cell? ⟨K1,0,none⟩=_:=HF.out.2.1.cell 0;have j1:WF.drew.cell? ⟨K1,1,none⟩=_:=HF.out.2.1.cell 1;have j2:WF.drew.cell? ⟨K1,2,none⟩=_:=HF.out.2.1.cell 2;have j3:WF.drew.cell? ⟨K1,3,none⟩=_:=HF.out.2.1.cell 3;have j4:WF.drew.cell? ⟨K2,0,none⟩=_:=HF.out.2.2.cell 0;have j5:WF.drew.cell? ⟨K2,1,none⟩=_:=HF.out.2.2.cell 1;refine bodyPost_ret (v:=.tuple #[.agg #[.int .i64 k2,.string x2,.string a2,.slice ad2 len2 cap2],.agg #[.int .i64 sE,.int .i64 sA]]) (by simp[results,Tryz.results60,go_sem,j0,j1,j2,j3,j4,j5]) rfl ?_;exact⟨_,by rw[HV.out],by rw[HV.out];exact HTF.out.later (Below.refl WF.heap.size WF).drew,HF.out.1.drew⟩
end Tre
end Go.Proofs.YtidhpmcmbooaoaaGreatDoor
