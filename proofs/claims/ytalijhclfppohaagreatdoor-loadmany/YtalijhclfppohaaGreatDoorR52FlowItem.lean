/- . -/
import Derived.Test.YtalijhclfppohaaGreatDoorR12FlowOn
set_option linter.unusedSimpArgs false
set_option linter.unusedVariables false
set_option maxRecDepth 100000
namespace Go.Proofs.YtalijhclfppohaaGreatDoor
namespace Flw
open Utf Rws Pln
open Go.RowKit
set_option maxHeartbeats 4000000
variable {b p dp d:Nat} {s:Ln} {w w1 w2:World} {vf:Ln->Ot (Tr × Ln)}
def ValOk (b:Nat) (s:Ln) (dp d:Nat) (vf:Ln->Ot (Tr × Ln)):Prop:=∀ (w:World) (p:Nat),Rd w b s p dp->p<=s.length->TbB b w->Calls Tryz.prog 135 #[.pointer (some ⟨b,0,none⟩),.bool true] w fun e w'=>ValRes b s dp w d (vf (s.drop p)) e w'
structure S3 (w0 w:World) (b K0 KT KF:Nat) (tc fc:Array Value):Prop where
 k0:Bx w K0 zF 32
 kt:Bx w KT tc 35
 kf:Bx w KF fc 32
 fr:Fr b w0 w
 hb:b<w0.heap.size
 h0:w0.heap.size<=K0
 h1:K0<KT
 h2:KT<KF
variable {K0 KT KF:Nat} {tc fc:Array Value} {w0:World}
theorem Kd.drew1 {c d:Nat} {xs:List Value} {ks:List Tr} (h:Kd c w d xs ks):Kd c w.drew d xs ks:=h.later ((Below.refl _ _).drew)
theorem S3.new (hx:Bx w K0 zF 32) (hf:Fr b w0 w) (hb:b<w0.heap.size) (h0:w0.heap.size<=K0) (tc fc:Array Value):S3 w0 ((w.alloc (.cells tc 35)).alloc (.cells fc 32)) b K0 w.heap.size (w.heap.size+1) tc fc:=by
 have b1:=below_alloc w (.cells tc 35);have b2:=below_alloc (w.alloc (.cells tc 35)) (.cells fc 32);have e1:(w.alloc (.cells tc 35)).heap.size=w.heap.size+1:=by simp
 have x1:=Bx.new (w.alloc (.cells tc 35)) fc 32;rw[e1]at x1;exact⟨(hx.later b1).later b2,(Bx.new w tc 35).later b2,x1,hf.trans (Fr.of (b1.trans (b2.mono (by omega))) (by have:=hf.size;omega)),hb,h0,hx.lt,by omega⟩
theorem S3.later (h:S3 w0 w b K0 KT KF tc fc) (hb:Below w.heap.size w w1):S3 w0 w1 b K0 KT KF tc fc :=
 ⟨h.k0.later hb,h.kt.later hb,h.kf.later hb,h.fr.trans (Fr.of hb (by have:=h.hb;have:=h.fr.size;omega)),h.hb,h.h0,h.h1,h.h2⟩
theorem S3.setF (h:S3 w0 w b K0 KT KF tc fc) (x y:Value) (hz:fc.size=2):S3 w0 ((w.setCell ⟨KF,0,none⟩ x).setCell ⟨KF,1,none⟩ y) b K0 KT KF tc #[x,y]:=by
 have:=h.hb;have:=h.h0;have:=h.h1;have:=h.h2
 have e:(fc.setIfInBounds 0 x).setIfInBounds 1 y=#[x,y]:=by
  obtain⟨l⟩:=fc
  match l,hz with
  | [u,v],_=>rfl
 exact⟨(h.k0.other (by omega) _ _).other (by omega) _ _,(h.kt.other (by omega) _ _).other (by omega) _ _,e▸(h.kf.set 0 x).set 1 y,(h.fr.new (by omega) (by omega) _ _).new (by omega) (by omega) _ _,h.hb,h.h0,h.h1,h.h2⟩
theorem item_any (hV:ValOk b s dp d vf) (hbad:∀ l e,vf l=.error e->e.1≠0) (h:Rd w b s p dp) (hp:p<=s.length) (hs:s.length<=65536) (hT:TbB b w) :
  Calls Tryz.prog 170 #[.pointer (some ⟨b,0,none⟩)] w fun e w'=>PrtRes b s dp w d (litem vf (s.drop p)) e w':=by
 have hlt:=h.lt;have hb0:=below_alloc w (.cells zF 32);have hr0:=h.later hb0;have hx0:=Bx.new w zF 32;have hT0:=hT.later hb0;obtain⟨W,hW⟩:∃ W,w.alloc (.cells zF 32)=W:=⟨_,rfl⟩;rw[hW]at hb0 hr0 hx0 hT0;have c1:=hr0.c1;have HVA:Hid (Calls Tryz.prog 135 #[.pointer (some ⟨b,0,none⟩),.bool true] W fun e w'=>ValRes b s dp W d (vf (s.drop p)) e w'):=hV W p hr0 hp hT0;have hW':w.alloc (.cells #[.int .i64 0,.int .i64 0] 32)=W:=hW;go_enter Tryz.func170,Tryz.ntmps170;go_wp2_with fail;refine HVA.out.mono ?_;intro e w3 hres;generalize hvf:vf (s.drop p)=r at hres
 cases r with
 | error F =>
  obtain⟨v,t,ht,rfl,hf3⟩:=hres;obtain⟨k,x,a,ad,len,cap,rfl⟩:=ht.cells;have hF0:=hbad _ _ hvf;have HLI:Hid (litem vf (s.drop p)=.error F):=by unfold litem;rw[hvf];exact rfl
  unfold fv;have hS:=S3.new (hx0.fr hf3 hlt) ((Fr.of hb0 hlt).trans hf3) hlt (Nat.le_refl _) #[.int .i64 k,.string x,.string a,.slice ad len cap] #[.int .i64 (F.1:Int),.int .i64 ((s.length-F.2:Nat):Int)];go_upto_region 3 with fail
  generalize hw4:(w3.alloc (.cells #[.int .i64 k,.string x,.string a,.slice ad len cap] 35)).alloc (.cells #[.int .i64 (F.1:Int),.int .i64 ((s.length-F.2:Nat):Int)] 32)=w4 at hS |-;generalize hKF:w3.heap.size+1=KF at hS |-;generalize hKT:w3.heap.size=KT at hS |-;generalize hK0:w.heap.size=K0 at hS |-;have HS:Hid (S3 w w4 b K0 KT KF #[.int .i64 k,.string x,.string a,.slice ad len cap] #[.int .i64 (F.1:Int),.int .i64 ((s.length-F.2:Nat):Int)]):=hS;have HK0:Hid (w.heap.size<=K0):=Nat.le_of_eq hK0;have HK1:Hid (K0<W.heap.size):=by rw[<-hK0];exact hx0.lt
  have HSW:Hid (w.heap.size<=W.heap.size):=hb0.size;clear hKF hKT hK0 hS;clear hw4 hW' hW ht hf3 HVA hvf hV c1 hr0 hT0 hx0 hb0;obtain⟨i0,i1⟩:=HS.out.kf.c2;obtain⟨t0,t1,t2,t3⟩:=HS.out.kt.c4;obtain⟨y0,y1⟩:=HS.out.k0.c2;have v0:=HS.out.k0.fz 0;have v1:=HS.out.k0.fz 1;have hF1:((F.1:Int)==0)=false:=by rw[beq_eq_false_iff_ne];omega
  clear hF0;obtain⟨w5,hw5⟩:∃ w5,w4.alloc (.cells #[.int .i64 k,.string x,.string a,.slice ad len cap] 35)=w5:=⟨_,rfl⟩;have HB5:Hid (Below w4.heap.size w4 w5):=by rw[<-hw5];exact below_alloc _ _
  have HX5:Hid (Bx w5 w4.heap.size #[.int .i64 k,.string x,.string a,.slice ad len cap] 35):=by rw[<-hw5];exact Bx.new _ _ _
  have HS5:Hid (S3 w w5 b K0 KT KF #[.int .i64 k,.string x,.string a,.slice ad len cap] #[.int .i64 (F.1:Int),.int .i64 ((s.length-F.2:Nat):Int)]):=HS.out.later HB5.out;obtain⟨n0,n1⟩:=HS5.out.kf.c2;obtain⟨m0,m1⟩:=HS5.out.k0.c2;have m2:=HS5.out.k0.fz 0;have m3:=HS5.out.k0.fz 1;have hd1:KF≠K0:=by have:=HS5.out.h1;have:=HS5.out.h2;omega
  have hd2:K0≠KF:=by omega
  go_wp2;go_region
  all_goals
   go_wp2;refine bodyPost_ret (v:=.tuple #[.slice (some ⟨w4.heap.size,0,none⟩) 1 1,.agg #[.int .i64 (F.1:Int),.int .i64 ((s.length-F.2:Nat):Int)]]) (by simp[results,Tryz.results170,go_sem,m0,m1]) rfl ?_;rw[HLI.out];exact⟨_,1,rfl,(HS5.out.fr.box HS5.out.h0 (by have:=HS5.out.hb;have:=HS5.out.h0;omega) _ _).drew⟩
 | ok r =>
  obtain⟨t,l'⟩:=r;obtain⟨v,rfl,ht,⟨q,hq,hl',hr3⟩,hf3⟩:=hres;simp only at ht hl';subst hl';obtain⟨k,x,a,ad,len,cap,rfl⟩:=ht.cells;unfold f0;have hS:=S3.new (hx0.fr hf3 hlt) ((Fr.of hb0 hlt).trans hf3) hlt (Nat.le_refl _) #[.int .i64 k,.string x,.string a,.slice ad len cap] #[.int .i64 0,.int .i64 0];go_upto_region 3 with fail
  generalize hw4:(w3.alloc (.cells #[.int .i64 k,.string x,.string a,.slice ad len cap] 35)).alloc (.cells #[.int .i64 0,.int .i64 0] 32)=w4 at hS |-;generalize hKF:w3.heap.size+1=KF at hS |-;generalize hKT:w3.heap.size=KT at hS |-;generalize hK0:w.heap.size=K0 at hS |-;have HS:Hid (S3 w w4 b K0 KT KF #[.int .i64 k,.string x,.string a,.slice ad len cap] #[.int .i64 0,.int .i64 0]):=hS;have HK0:Hid (w.heap.size<=K0):=Nat.le_of_eq hK0;have HK1:Hid (K0<W.heap.size):=by rw[<-hK0];exact hx0.lt
  have HSW:Hid (w.heap.size<=W.heap.size):=hb0.size;clear hKF hKT hK0 hS;have hb4:Below w3.heap.size w3 w4:=by rw[<-hw4];exact(below_alloc _ _).trans ((below_alloc _ _).mono (by simp))
  have HR4:Hid (Rd w4 b s q dp):=hr3.later hb4;have HT4:Hid (TrP W.heap.size w4 d (.agg #[.int .i64 k,.string x,.string a,.slice ad len cap]) t):=ht.later hb4;clear hw4 hW' hW ht hf3 HVA hV c1 hr0 hT0 hx0 hb0 hr3 hb4;have c1:=HR4.out.c1;obtain⟨i0,i1⟩:=HS.out.kf.c2;obtain⟨t0,t1,t2,t3⟩:=HS.out.kt.c4;obtain⟨y0,y1⟩:=HS.out.k0.c2;have v0:=HS.out.k0.fz 0;have v1:=HS.out.k0.fz 1;by_cases hqp:q=p
  ·have HLI:Hid (litem vf (s.drop p)=.error (stands (gaps (s.drop q)))):=by unfold litem;rw[hvf,bnd_ok];simp only;rw[if_pos (by rw[hqp])];exact rfl
   have HWR:Hid (Calls Tryz.prog 188 #[.pointer (some ⟨b,0,none⟩)] w4 fun e w'=>e=.returned (fv s.length (stands (gaps (s.drop q))))/\Hid (S3 w w' b K0 KT KF #[.int .i64 k,.string x,.string a,.slice ad len cap] #[.int .i64 0,.int .i64 0])):=(wrong_any HR4.out hq hs).mono (fun e w' h=>⟨h.1,HS.out.later h.2⟩);generalize stands (gaps (s.drop q))=F at *;subst hqp;go_wp2_with fail;refine HWR.out.mono ?_;rintro e w6 ⟨rfl,HS6⟩;unfold fv;obtain⟨e0,e1⟩:=HS6.out.kf.c2;have e2:=HS6.out.kf.fz 0;have e3:=HS6.out.kf.fz 1;obtain⟨w7,hw7⟩:∃ w7,(w6.setCell ⟨KF,0,none⟩ (.int .i64 (F.1:Int))).setCell ⟨KF,1,none⟩ (.int .i64 ((s.length-F.2:Nat):Int))=w7:=⟨_,rfl⟩;have HS7:Hid (S3 w w7 b K0 KT KF #[.int .i64 k,.string x,.string a,.slice ad len cap] #[.int .i64 (F.1:Int),.int .i64 ((s.length-F.2:Nat):Int)]):=by rw[<-hw7];exact HS6.out.setF _ _ rfl
   clear HS HR4 HT4 HWR i0 i1 t0 t1 t2 t3 y0 y1 v0 v1 c1;obtain⟨i0,i1⟩:=HS7.out.kf.c2;obtain⟨t0,t1,t2,t3⟩:=HS7.out.kt.c4;obtain⟨y0,y1⟩:=HS7.out.k0.c2;have v0:=HS7.out.k0.fz 0;have v1:=HS7.out.k0.fz 1;obtain⟨w5,hw5⟩:∃ w5,w7.alloc (.cells #[.int .i64 k,.string x,.string a,.slice ad len cap] 35)=w5:=⟨_,rfl⟩;have HB5:Hid (Below w7.heap.size w7 w5):=by rw[<-hw5];exact below_alloc _ _
   have HX5:Hid (Bx w5 w7.heap.size #[.int .i64 k,.string x,.string a,.slice ad len cap] 35):=by rw[<-hw5];exact Bx.new _ _ _
   have HS5:Hid (S3 w w5 b K0 KT KF #[.int .i64 k,.string x,.string a,.slice ad len cap] #[.int .i64 (F.1:Int),.int .i64 ((s.length-F.2:Nat):Int)]):=HS7.out.later HB5.out;obtain⟨n0,n1⟩:=HS5.out.kf.c2;obtain⟨m0,m1⟩:=HS5.out.k0.c2;have m2:=HS5.out.k0.fz 0;have m3:=HS5.out.k0.fz 1;have hd1:KF≠K0:=by have:=HS5.out.h1;have:=HS5.out.h2;omega
   have hd2:K0≠KF:=by omega
   go_wp2;go_region
   all_goals
    go_wp2;refine bodyPost_ret (v:=.tuple #[.slice (some ⟨w7.heap.size,0,none⟩) 1 1,.agg #[.int .i64 (F.1:Int),.int .i64 ((s.length-F.2:Nat):Int)]]) (by simp[results,Tryz.results170,go_sem,m0,m1]) rfl ?_;rw[HLI.out];exact⟨_,1,rfl,(HS5.out.fr.box HS5.out.h0 (by have:=HS5.out.hb;have:=HS5.out.h0;omega) _ _).drew⟩
  ·have HLI:Hid (litem vf (s.drop p)=.ok ([t],s.drop q)):=by
    unfold litem;rw[hvf,bnd_ok];simp only;rw[if_neg (by rw[List.length_drop,List.length_drop];omega)];exact rfl
   have hqe:((q:Int)==(p:Int))=false:=by rw[beq_eq_false_iff_ne];omega
   obtain⟨w5,hw5⟩:∃ w5,w4.alloc (.cells #[.int .i64 k,.string x,.string a,.slice ad len cap] 35)=w5:=⟨_,rfl⟩;have HB5:Hid (Below w4.heap.size w4 w5):=by rw[<-hw5];exact below_alloc _ _
   have HX5:Hid (Bx w5 w4.heap.size #[.int .i64 k,.string x,.string a,.slice ad len cap] 35):=by rw[<-hw5];exact Bx.new _ _ _
   have HS5:Hid (S3 w w5 b K0 KT KF #[.int .i64 k,.string x,.string a,.slice ad len cap] #[.int .i64 0,.int .i64 0]):=HS.out.later HB5.out;obtain⟨n0,n1⟩:=HS5.out.kf.c2;obtain⟨m0,m1⟩:=HS5.out.k0.c2;have m2:=HS5.out.k0.fz 0;have m3:=HS5.out.k0.fz 1;have hd1:KF≠K0:=by have:=HS5.out.h1;have:=HS5.out.h2;omega
   have hd2:K0≠KF:=by omega
   have HR5:Hid (Rd w5 b s q dp):=HR4.out.later HB5.out;have HT5:Hid (TrP W.heap.size w5 d (.agg #[.int .i64 k,.string x,.string a,.slice ad len cap]) t):=HT4.out.later HB5.out;clear hqp HR4 HT4;go_wp2;go_region
   all_goals
    go_wp2;refine bodyPost_ret (v:=.tuple #[.slice (some ⟨w4.heap.size,0,none⟩) 1 1,.agg #[.int .i64 0,.int .i64 0]]) (by simp[results,Tryz.results170,go_sem,m0,m1]) rfl ?_;rw[HLI.out];have hbK:b<K0:=by have:=HS5.out.hb;have:=HS5.out.h0;omega
    have hKK:K0<w4.heap.size:=HS.out.k0.lt;refine⟨w4.heap.size,1,#[.int .i64 k,.string x,.string a,.slice ad len cap].toList,rfl,rfl,by decide,?_,by have:=HK0.out;omega,?_,⟨q,hq,rfl,(HR5.out.box (by omega) _ _).drew1⟩,(HS5.out.fr.box HS5.out.h0 (by have:=HS5.out.hb;have:=HS5.out.h0;omega) _ _).drew⟩
    ·exact(HX5.out.other (by omega) _ _).other (by omega) _ _
    ·exact((((Kd.one HT5.out).set HK1.out).set HK1.out).mono HSW.out).drew1
end Flw
namespace Flw
open Utf Rws Pln
open Go.RowKit
set_option maxHeartbeats 4000000
variable {b p dp d:Nat} {s:Ln} {w w1 w2:World} {vf:Ln->Ot (Tr × Ln)}
variable {K0 KT KF:Nat} {tc fc:Array Value} {w0:World}
theorem S3.step (h:S3 w0 w b K0 KT KF tc fc) (hf:Fr b w w1):S3 w0 w1 b K0 KT KF tc fc:=by
 have:=h.hb;have:=h.h0;have:=h.h1;have:=h.h2;exact⟨h.k0.fr hf (by omega),h.kt.fr hf (by omega),h.kf.fr hf (by omega),h.fr.trans hf,h.hb,h.h0,h.h1,h.h2⟩
theorem lscl_bad (f:Bool) (l:Ln):Bad (lscl f l):=by
 unfold lscl lplain;exact .ite (.bnd (quoted_bad _) fun _=>.ok _) (.bnd (.ite (.ok _) (.ite (.err (show 3≠0 by decide)) (.ok _))) fun _=>.ok _)
theorem lscl_leaf {f:Bool} {l:Ln} {x:(Tr × Ln) × Ln} (h:lscl f l=.ok x) (hl:l.length<=65536):x.1.1=⟨x.1.1.kind,x.1.1.text,[],[]⟩/\(1<=x.1.1.kind/\x.1.1.kind<=4)/\x.1.1.text.length<=65536/\x.1.2.length<=65536:=by
 have hg:=gaps_len l;unfold lscl at h;by_cases c:hd (gaps l)=39\/hd (gaps l)=34
 ·rw[if_pos c]at h;obtain⟨y,hy,h⟩:=bnd_inv h;cases h
  have:y.1.length<=(gaps l).length:=by
   unfold quoted at hy;obtain⟨_,hy⟩:=ite_inv hy;cases hy;exact rd_olen _
  exact⟨rfl,⟨by show (1:Int)<=4;decide,by show (4:Int)<=4;decide⟩,by show y.1.length<=_;omega,by show y.1.length<=_;omega⟩
 ·rw[if_neg c]at h;obtain⟨y,hy,h⟩:=bnd_inv h;cases h
  have hyl:y.1.length<=(gaps l).length:=by
   unfold lplain at hy;by_cases c1:cutT (gaps l) f=[]
   ·rw[if_pos c1]at hy;cases hy;exact Nat.zero_le _
   ·rw[if_neg c1]at hy;obtain⟨_,hy⟩:=ite_inv hy;cases hy;have h2:=cutT_len (gaps l) f;have h3:=fin_le (gaps l) f;show (cutT (gaps l) f).length<=_;omega
  refine⟨rfl,knd_bd _,?_,by show y.1.length<=_;omega⟩;show (if knd y.1=1 then []else y.1).length<=_;split
  ·exact Nat.zero_le _
  ·omega
theorem entry_any (hV:ValOk b s dp d vf) (hbad:∀ l e,vf l=.error e->e.1≠0) (h:Rd w b s p dp) (hp:p<=s.length) (hs:s.length<=65536) (hT:TbB b w) (hd1:1<=d) :
  Calls Tryz.prog 171 #[.pointer (some ⟨b,0,none⟩)] w fun e w'=>PrtRes b s dp w d (lentry vf (s.drop p)) e w':=by
 have hlt:=h.lt;have hb0:=below_alloc w (.cells zF 32);have hr0:=h.later hb0;have hx0:=Bx.new w zF 32;have hT0:=hT.later hb0;obtain⟨W,hW⟩:∃ W,w.alloc (.cells zF 32)=W:=⟨_,rfl⟩;rw[hW]at hb0 hr0 hx0 hT0;have c1:=hr0.c1;have HSC:Hid (Calls Tryz.prog 172 #[.pointer (some ⟨b,0,none⟩),.bool true] W fun e w'=>SclRes b s dp W (lscl true (s.drop p)) e w'):=scalar_any true hr0 hp hs hT0;have hW':w.alloc (.cells #[.int .i64 0,.int .i64 0] 32)=W:=hW;go_enter Tryz.func171,Tryz.ntmps171;go_wp2_with fail;refine HSC.out.mono ?_;intro e w3 hres;generalize hsc:lscl true (s.drop p)=r at hres
 cases r with
 | error F =>
  obtain⟨k,hk,rfl,hf3⟩:=hres;have hF0:=lscl_bad true _ _ hsc;have HLI:Hid (lentry vf (s.drop p)=.error F):=by unfold lentry;rw[hsc];exact rfl
  unfold fv lfV;have hS:=S3.new (hx0.fr hf3 hlt) ((Fr.of hb0 hlt).trans hf3) hlt (Nat.le_refl _) #[.int .i64 k,.string (mk []),.string (mk []),.slice none 0 0] #[.int .i64 (F.1:Int),.int .i64 ((s.length-F.2:Nat):Int)];go_upto_region 3 with fail
  generalize hw4:(w3.alloc (.cells #[.int .i64 k,.string (mk []),.string (mk []),.slice none 0 0] 35)).alloc (.cells #[.int .i64 (F.1:Int),.int .i64 ((s.length-F.2:Nat):Int)] 32)=w4 at hS |-;have hKTl:w3.heap.size<w4.heap.size:=hS.kt.lt;generalize hKF:w3.heap.size+1=KF at hS |-;generalize hKT:w3.heap.size=KT at hS hKTl |-;generalize hK0:w.heap.size=K0 at hS |-;have HS:Hid (S3 w w4 b K0 KT KF #[.int .i64 k,.string (mk []),.string (mk []),.slice none 0 0] #[.int .i64 (F.1:Int),.int .i64 ((s.length-F.2:Nat):Int)]):=hS;have HK0:Hid (w.heap.size<=K0):=Nat.le_of_eq hK0;have HKW:Hid (K0<W.heap.size):=by rw[<-hK0];exact hx0.lt
  have HSW:Hid (w.heap.size<=W.heap.size):=hb0.size;clear hK0 hS;clear hw4 hW' hW hf3 HSC hsc hV c1 hr0 hT0 hx0 hb0 hKF hKT;obtain⟨i0,i1⟩:=HS.out.kf.c2;obtain⟨y0,y1⟩:=HS.out.k0.c2;have v0:=HS.out.k0.fz 0;have v1:=HS.out.k0.fz 1;have hd1:KF≠K0:=by have:=HS.out.h1;have:=HS.out.h2;omega
  have hd2:K0≠KF:=by omega
  have hF1:((F.1:Int)==0)=false:=by rw[beq_eq_false_iff_ne];omega
  have hF2:((F.1:Int)!=0)=true:=by simpa using hF1
  clear hF0;go_wp2;go_region
  all_goals
   go_wp2;refine bodyPost_ret (v:=.tuple #[.slice none 0 0,.agg #[.int .i64 (F.1:Int),.int .i64 ((s.length-F.2:Nat):Int)]]) (by simp[results,Tryz.results171,go_sem,y0,y1]) rfl ?_;rw[HLI.out];exact⟨none,0,rfl,(HS.out.fr.box HS.out.h0 (by have:=HS.out.hb;have:=HS.out.h0;omega) _ _).drew⟩
 | ok r =>
  obtain⟨⟨t,wr⟩,l'⟩:=r;obtain⟨rfl,⟨q,hq,hl',hr3⟩,hf3⟩:=hres;simp only at hl';subst hl';have hlf:=lscl_leaf hsc (by rw[List.length_drop];omega);simp only at hlf;obtain⟨k,tx,ta,tk⟩:=t;obtain⟨hlf1,hlf2,hlf3,hlf4⟩:=hlf;simp only[Tr.mk.injEq,true_and]at hlf1;obtain⟨rfl,rfl⟩:=hlf1;unfold f0 lfV;have hS:=S3.new (hx0.fr hf3 hlt) ((Fr.of hb0 hlt).trans hf3) hlt (Nat.le_refl _) #[.int .i64 k,.string (mk tx),.string (mk []),.slice none 0 0] #[.int .i64 0,.int .i64 0];go_upto_region 3 with fail
  generalize hw4:(w3.alloc (.cells #[.int .i64 k,.string (mk tx),.string (mk []),.slice none 0 0] 35)).alloc (.cells #[.int .i64 0,.int .i64 0] 32)=w4 at hS |-;have hKTl:w3.heap.size<w4.heap.size:=hS.kt.lt;generalize hKF:w3.heap.size+1=KF at hS |-;generalize hKT:w3.heap.size=KT at hS hKTl |-;generalize hK0:w.heap.size=K0 at hS |-;have HS:Hid (S3 w w4 b K0 KT KF #[.int .i64 k,.string (mk tx),.string (mk []),.slice none 0 0] #[.int .i64 0,.int .i64 0]):=hS;have HK0:Hid (w.heap.size<=K0):=Nat.le_of_eq hK0;have HKW:Hid (K0<W.heap.size):=by rw[<-hK0];exact hx0.lt
  have HSW:Hid (w.heap.size<=W.heap.size):=hb0.size;clear hK0 hS;have hb4:Below w3.heap.size w3 w4:=by rw[<-hw4];exact(below_alloc _ _).trans ((below_alloc _ _).mono (by simp))
  have HR4:Hid (Rd w4 b s q dp):=hr3.later hb4;have HT4:Hid (TbB b w4):=(hT0.fr hf3).later hb4;clear hw4 hW' hW hf3 HSC c1 hr0 hT0 hx0 hb0 hr3 hb4 hKF hKT;have c1:=HR4.out.c1;obtain⟨i0,i1⟩:=HS.out.kf.c2;obtain⟨y0,y1⟩:=HS.out.k0.c2;have v0:=HS.out.k0.fz 0;have v1:=HS.out.k0.fz 1;have hd1:KF≠K0:=by have:=HS.out.h1;have:=HS.out.h2;omega
  have hd2:K0≠KF:=by omega
  by_cases hqp:q=p
  ·have HLI:Hid (lentry vf (s.drop p)=.error (stands (gaps (s.drop q)))):=by unfold lentry;rw[hsc,bnd_ok];simp only;rw[if_pos (.inl (by rw[hqp]))];exact rfl
   have HWR:Hid (Calls Tryz.prog 188 #[.pointer (some ⟨b,0,none⟩)] w4 fun e w'=>e=.returned (fv s.length (stands (gaps (s.drop q))))/\Hid (S3 w w' b K0 KT KF #[.int .i64 k,.string (mk tx),.string (mk []),.slice none 0 0] #[.int .i64 0,.int .i64 0])):=(wrong_any HR4.out hq hs).mono (fun e w' h=>⟨h.1,HS.out.later h.2⟩);generalize stands (gaps (s.drop q))=F at *;subst hqp;go_wp2_with fail;refine HWR.out.mono ?_;rintro e w6 ⟨rfl,HS6⟩;unfold fv;obtain⟨i0b,i1b⟩:=HS6.out.kf.c2;obtain⟨y0b,y1b⟩:=HS6.out.k0.c2;have v0b:=HS6.out.k0.fz 0;have v1b:=HS6.out.k0.fz 1;have hd1b:KF≠K0:=by have:=HS6.out.h1;have:=HS6.out.h2;omega
   have hd2b:K0≠KF:=by omega
   go_wp2;refine bodyPost_ret (v:=.tuple #[.slice none 0 0,.agg #[.int .i64 (F.1:Int),.int .i64 ((s.length-F.2:Nat):Int)]]) (by simp[results,Tryz.results171,go_sem,y0b,y1b]) rfl ?_;rw[HLI.out];exact⟨none,0,rfl,(HS6.out.fr.box HS6.out.h0 (by have:=HS6.out.hb;have:=HS6.out.h0;omega) _ _)⟩
  ·have hqe:((q:Int)==(p:Int))=false:=by rw[beq_eq_false_iff_ne];omega
   have HTC:Hid (Calls Tryz.prog 189 #[.pointer (some ⟨b,0,none⟩)] w4 fun e w'=>ColRes b s q dp w4 (colon (gaps (s.drop q))) e w'):=takesColon_any HR4.out hq hs;have hlne: ¬ (s.drop q).length=(s.drop p).length:=by rw[List.length_drop,List.length_drop];omega
   have HLE:Hid (lentry vf (s.drop p)=if colon (gaps (s.drop q))=false then .error (stands (gaps (s.drop q)))else bnd (vf ((gaps (s.drop q)).drop 1)) fun x=>.ok ([⟨k,tx,[],[]⟩,x.1],x.2)):=by
    unfold lentry;rw[hsc,bnd_ok];simp only;by_cases hc:colon (gaps (s.drop q))=false
    ·rw[if_pos (.inr hc),if_pos hc];exact rfl
    ·rw[if_neg (fun h=>h.elim hlne hc),if_neg hc];exact rfl
   have hcn:colon (gaps (s.drop q))=true->nx s q+1<=s.length:=fun hc=>by
    have h1:=gaps_nx s hq;have h2:hd (gaps (s.drop q))=58:=by unfold colon at hc;simp at hc;exact hc.1
    have:=(hd_ne (l:=gaps (s.drop q)) (by rw[h2];decide)).2;omega
   have hdr:s.drop (nx s q+1)=(gaps (s.drop q)).drop 1:=by rw[<-List.drop_drop,drop_nx s hq]
   rw[<-hdr]at HLE;clear hqp hlne hdr hsc;cases hco:colon (gaps (s.drop q))
   ·rw[hco]at HTC HLE;have HLI:Hid (lentry vf (s.drop p)=.error (stands (gaps (s.drop q)))):=HLE.out;clear HLE hco hcn;go_wp2_with fail;refine HTC.out.mono ?_;rintro e w5 ⟨rfl,hf5,hr5⟩;have HR5:Hid (Rd w5 b s q dp):=hr5;have HS5:Hid (S3 w w5 b K0 KT KF #[.int .i64 k,.string (mk tx),.string (mk []),.slice none 0 0] #[.int .i64 0,.int .i64 0]):=HS.out.step hf5;clear hr5 hf5;have HWR:Hid (Calls Tryz.prog 188 #[.pointer (some ⟨b,0,none⟩)] w5 fun e w'=>e=.returned (fv s.length (stands (gaps (s.drop q))))/\Hid (S3 w w' b K0 KT KF #[.int .i64 k,.string (mk tx),.string (mk []),.slice none 0 0] #[.int .i64 0,.int .i64 0])):=(wrong_any HR5.out hq hs).mono (fun e w' h=>⟨h.1,HS5.out.later h.2⟩);generalize stands (gaps (s.drop q))=F at *;go_wp2_with fail;refine HWR.out.mono ?_;rintro e w6 ⟨rfl,HS6⟩;unfold fv;obtain⟨i0b,i1b⟩:=HS6.out.kf.c2;obtain⟨y0b,y1b⟩:=HS6.out.k0.c2;have v0b:=HS6.out.k0.fz 0;have v1b:=HS6.out.k0.fz 1;have hd1b:KF≠K0:=by have:=HS6.out.h1;have:=HS6.out.h2;omega
    have hd2b:K0≠KF:=by omega
    go_wp2;refine bodyPost_ret (v:=.tuple #[.slice none 0 0,.agg #[.int .i64 (F.1:Int),.int .i64 ((s.length-F.2:Nat):Int)]]) (by simp[results,Tryz.results171,go_sem,y0b,y1b]) rfl ?_;rw[HLI.out];exact⟨none,0,rfl,(HS6.out.fr.box HS6.out.h0 (by have:=HS6.out.hb;have:=HS6.out.h0;omega) _ _)⟩
   ·rw[hco]at HTC HLE;have hq1:=hcn hco;have HLV:Hid (lentry vf (s.drop p)=bnd (vf (s.drop (nx s q+1))) fun x=>.ok ([⟨k,tx,[],[]⟩,x.1],x.2)):=HLE.out;clear HLE hco hcn;go_wp2_with fail;refine HTC.out.mono ?_;rintro e w5 ⟨rfl,hf5,hr5⟩;replace hr5:Rd w5 b s (nx s q+1) dp:=hr5;have HS5:Hid (S3 w w5 b K0 KT KF #[.int .i64 k,.string (mk tx),.string (mk []),.slice none 0 0] #[.int .i64 0,.int .i64 0]):=HS.out.step hf5;have HVA:Hid (Calls Tryz.prog 135 #[.pointer (some ⟨b,0,none⟩),.bool true] w5 fun e w'=>ValRes b s dp w5 d (vf (s.drop (nx s q+1))) e w'):=hV w5 _ hr5 hq1 (HT4.out.fr hf5);have H45:Hid (w4.heap.size<=w5.heap.size):=hf5.size;clear hr5 hf5;go_wp2_with fail;refine HVA.out.mono ?_;intro e w6 hres;generalize hvf:vf (s.drop (nx s q+1))=r at hres HLV
    cases r with
    | error F =>
     obtain⟨v,t,ht,rfl,hf6⟩:=hres;obtain⟨k2,x2,a2,ad2,len2,cap2,rfl⟩:=ht.cells;have HS6:Hid (S3 w w6 b K0 KT KF #[.int .i64 k,.string (mk tx),.string (mk []),.slice none 0 0] #[.int .i64 0,.int .i64 0]):=HS5.out.step hf6;have HLI:Hid (lentry vf (s.drop p)=.error F):=HLV.out;unfold fv;clear ht hf6 HVA HS5 HLV hvf;have z0:w6.frozen? ⟨KF,0,none⟩=false:=HS6.out.kf.fz 0;have z1:w6.frozen? ⟨KF,1,none⟩=false:=HS6.out.kf.fz 1;obtain⟨z2,z3⟩:=HS6.out.kf.c2;have z4:KF<w6.heap.size:=HS6.out.kf.lt;have HS7:Hid (S3 w (((w6.setCell ⟨KF,0,none⟩ (.int .i64 (F.1:Int))).setCell ⟨KF,1,none⟩ (.int .i64 ((s.length-F.2:Nat):Int))).alloc (.cells #[.int .i64 k2,.string x2,.string a2,.slice ad2 len2 cap2] 35)) b K0 KT KF #[.int .i64 k,.string (mk tx),.string (mk []),.slice none 0 0] #[.int .i64 (F.1:Int),.int .i64 ((s.length-F.2:Nat):Int)]):=(HS6.out.setF (.int .i64 (F.1:Int)) (.int .i64 ((s.length-F.2:Nat):Int)) rfl).later (below_alloc _ _)
     have HX7:Hid (Bx (((w6.setCell ⟨KF,0,none⟩ (.int .i64 (F.1:Int))).setCell ⟨KF,1,none⟩ (.int .i64 ((s.length-F.2:Nat):Int))).alloc (.cells #[.int .i64 k2,.string x2,.string a2,.slice ad2 len2 cap2] 35)) w6.heap.size #[.int .i64 k2,.string x2,.string a2,.slice ad2 len2 cap2] 35):=by
      have:=Bx.new ((w6.setCell ⟨KF,0,none⟩ (.int .i64 (F.1:Int))).setCell ⟨KF,1,none⟩ (.int .i64 ((s.length-F.2:Nat):Int))) #[.int .i64 k2,.string x2,.string a2,.slice ad2 len2 cap2] 35;rw[World.size_setCell,World.size_setCell]at this;exact this
     go_wp2;generalize hw7:(((w6.setCell ⟨KF,0,none⟩ (.int .i64 (F.1:Int))).setCell ⟨KF,1,none⟩ (.int .i64 ((s.length-F.2:Nat):Int))).alloc (.cells #[.int .i64 k2,.string x2,.string a2,.slice ad2 len2 cap2] 35))=w7 at *;generalize hK2:w6.heap.size=K2 at HX7 |-;clear hw7 hK2 z0 z1 z2 z3 z4;obtain⟨i0c,i1c⟩:=HS7.out.kf.c2;obtain⟨y0c,y1c⟩:=HS7.out.k0.c2;have v0c:=HS7.out.k0.fz 0;have v1c:=HS7.out.k0.fz 1;have hd1c:KF≠K0:=by have:=HS7.out.h1;have:=HS7.out.h2;omega
     have hd2c:K0≠KF:=by omega
     obtain⟨t0,t1,t2,t3⟩:=HS7.out.kt.c4;obtain⟨s0,s1,s2,s3⟩:=HX7.out.c4;obtain⟨w8,hw8⟩:∃ w8,w7.alloc (.cells #[.int .i64 k,.string (mk tx),.string (mk []),.slice none 0 0,.int .i64 k2,.string x2,.string a2,.slice ad2 len2 cap2] 35)=w8:=⟨_,rfl⟩;have HB8:Hid (Below w7.heap.size w7 w8):=by rw[<-hw8];exact below_alloc _ _
     have HX8:Hid (Bx w8 w7.heap.size #[.int .i64 k,.string (mk tx),.string (mk []),.slice none 0 0,.int .i64 k2,.string x2,.string a2,.slice ad2 len2 cap2] 35):=by rw[<-hw8];exact Bx.new _ _ _
     have HS8:Hid (S3 w w8 b K0 KT KF #[.int .i64 k,.string (mk tx),.string (mk []),.slice none 0 0] #[.int .i64 (F.1:Int),.int .i64 ((s.length-F.2:Nat):Int)]):=HS7.out.later HB8.out;obtain⟨i0e,i1e⟩:=HS8.out.kf.c2;obtain⟨y0e,y1e⟩:=HS8.out.k0.c2;have v0e:=HS8.out.k0.fz 0;have v1e:=HS8.out.k0.fz 1;have hd1e:KF≠K0:=by have:=HS8.out.h1;have:=HS8.out.h2;omega
     have hd2e:K0≠KF:=by omega
     go_region
     all_goals
      go_wp2;refine bodyPost_ret (v:=.tuple #[.slice (some ⟨w7.heap.size,0,none⟩) 2 2,.agg #[.int .i64 (F.1:Int),.int .i64 ((s.length-F.2:Nat):Int)]]) (by simp[results,Tryz.results171,go_sem,y0e,y1e]) rfl ?_;rw[HLI.out];exact⟨_,2,rfl,(HS8.out.fr.box HS8.out.h0 (by have:=HS8.out.hb;have:=HS8.out.h0;omega) _ _).drew⟩
    | ok r =>
     obtain⟨t,l'⟩:=r;obtain⟨v,rfl,ht,⟨q2,hq2,hl2,hr6⟩,hf6⟩:=hres;simp only at ht hl2;subst hl2;obtain⟨k2,x2,a2,ad2,len2,cap2,rfl⟩:=ht.cells;have HS6:Hid (S3 w w6 b K0 KT KF #[.int .i64 k,.string (mk tx),.string (mk []),.slice none 0 0] #[.int .i64 0,.int .i64 0]):=HS5.out.step hf6;have HLI:Hid (lentry vf (s.drop p)=.ok ([⟨k,tx,[],[]⟩,t],s.drop q2)):=HLV.out;have HC5:Hid (KF<w5.heap.size/\K0<w5.heap.size/\w.heap.size<=w5.heap.size):=⟨HS5.out.kf.lt,HS5.out.k0.lt,HS5.out.fr.size⟩;have hbK:b<KF:=by have:=HS5.out.hb;have:=HS5.out.h0;have:=HS5.out.h1;have:=HS5.out.h2;omega
     unfold f0;have HT7:Hid (TrP w5.heap.size (((w6.setCell ⟨KF,0,none⟩ (.int .i64 0)).setCell ⟨KF,1,none⟩ (.int .i64 0)).alloc (.cells #[.int .i64 k2,.string x2,.string a2,.slice ad2 len2 cap2] 35)) d (.agg #[.int .i64 k2,.string x2,.string a2,.slice ad2 len2 cap2]) t):=((ht.set HC5.out.1).set HC5.out.1).later (below_alloc _ _);have HR7:Hid (Rd (((w6.setCell ⟨KF,0,none⟩ (.int .i64 0)).setCell ⟨KF,1,none⟩ (.int .i64 0)).alloc (.cells #[.int .i64 k2,.string x2,.string a2,.slice ad2 len2 cap2] 35)) b s q2 dp):=((hr6.other (by omega) _ _).other (by omega) _ _).later (below_alloc _ _);clear ht hf6 hr6 HVA HS5 HLV hvf;have z0:w6.frozen? ⟨KF,0,none⟩=false:=HS6.out.kf.fz 0;have z1:w6.frozen? ⟨KF,1,none⟩=false:=HS6.out.kf.fz 1;obtain⟨z2,z3⟩:=HS6.out.kf.c2;have z4:KF<w6.heap.size:=HS6.out.kf.lt;have HS7:Hid (S3 w (((w6.setCell ⟨KF,0,none⟩ (.int .i64 0)).setCell ⟨KF,1,none⟩ (.int .i64 0)).alloc (.cells #[.int .i64 k2,.string x2,.string a2,.slice ad2 len2 cap2] 35)) b K0 KT KF #[.int .i64 k,.string (mk tx),.string (mk []),.slice none 0 0] #[.int .i64 0,.int .i64 0]):=(HS6.out.setF (.int .i64 0) (.int .i64 0) rfl).later (below_alloc _ _)
     have HX7:Hid (Bx (((w6.setCell ⟨KF,0,none⟩ (.int .i64 0)).setCell ⟨KF,1,none⟩ (.int .i64 0)).alloc (.cells #[.int .i64 k2,.string x2,.string a2,.slice ad2 len2 cap2] 35)) w6.heap.size #[.int .i64 k2,.string x2,.string a2,.slice ad2 len2 cap2] 35):=by
      have:=Bx.new ((w6.setCell ⟨KF,0,none⟩ (.int .i64 0)).setCell ⟨KF,1,none⟩ (.int .i64 0)) #[.int .i64 k2,.string x2,.string a2,.slice ad2 len2 cap2] 35;rw[World.size_setCell,World.size_setCell]at this;exact this
     go_wp2;generalize hw7:(((w6.setCell ⟨KF,0,none⟩ (.int .i64 0)).setCell ⟨KF,1,none⟩ (.int .i64 0)).alloc (.cells #[.int .i64 k2,.string x2,.string a2,.slice ad2 len2 cap2] 35))=w7 at *;generalize hK2:w6.heap.size=K2 at HX7 |-;clear hw7 hK2 z0 z1 z2 z3 z4;obtain⟨i0c,i1c⟩:=HS7.out.kf.c2;obtain⟨y0c,y1c⟩:=HS7.out.k0.c2;have v0c:=HS7.out.k0.fz 0;have v1c:=HS7.out.k0.fz 1;have hd1c:KF≠K0:=by have:=HS7.out.h1;have:=HS7.out.h2;omega
     have hd2c:K0≠KF:=by omega
     obtain⟨t0,t1,t2,t3⟩:=HS7.out.kt.c4;obtain⟨s0,s1,s2,s3⟩:=HX7.out.c4;obtain⟨w8,hw8⟩:∃ w8,w7.alloc (.cells #[.int .i64 k,.string (mk tx),.string (mk []),.slice none 0 0,.int .i64 k2,.string x2,.string a2,.slice ad2 len2 cap2] 35)=w8:=⟨_,rfl⟩;have HB8:Hid (Below w7.heap.size w7 w8):=by rw[<-hw8];exact below_alloc _ _
     have HX8:Hid (Bx w8 w7.heap.size #[.int .i64 k,.string (mk tx),.string (mk []),.slice none 0 0,.int .i64 k2,.string x2,.string a2,.slice ad2 len2 cap2] 35):=by rw[<-hw8];exact Bx.new _ _ _
     have HS8:Hid (S3 w w8 b K0 KT KF #[.int .i64 k,.string (mk tx),.string (mk []),.slice none 0 0] #[.int .i64 0,.int .i64 0]):=HS7.out.later HB8.out;obtain⟨i0e,i1e⟩:=HS8.out.kf.c2;obtain⟨y0e,y1e⟩:=HS8.out.k0.c2;have v0e:=HS8.out.k0.fz 0;have v1e:=HS8.out.k0.fz 1;have hd1e:KF≠K0:=by have:=HS8.out.h1;have:=HS8.out.h2;omega
     have hd2e:K0≠KF:=by omega
     go_region
     all_goals
      go_wp2;refine bodyPost_ret (v:=.tuple #[.slice (some ⟨w7.heap.size,0,none⟩) 2 2,.agg #[.int .i64 0,.int .i64 0]]) (by simp[results,Tryz.results171,go_sem,y0e,y1e]) rfl ?_;rw[HLI.out];have hbK0:b<K0:=by have:=HS8.out.hb;have:=HS8.out.h0;omega
      have hKK:K0<w7.heap.size:=HS7.out.k0.lt
      have hkey:TrP w5.heap.size w8 d (.agg #[.int .i64 k,.string (mk tx),.string (mk []),.slice none 0 0]) ⟨k,tx,[],[]⟩:=by
       have:=TrP.leaf (c:=w5.heap.size) (w:=w8) k tx [] (by omega) hlf3 (by simp) (d-1);rw[show d-1+1=d by omega]at this;exact this
      have hkd:=(Kd.one hkey).app (Kd.one (HT7.out.later HB8.out));refine⟨w7.heap.size,2,#[.int .i64 k,.string (mk tx),.string (mk []),.slice none 0 0,.int .i64 k2,.string x2,.string a2,.slice ad2 len2 cap2].toList,rfl,rfl,by decide,?_,by have:=HK0.out;omega,?_,⟨q2,hq2,rfl,((HR7.out.later HB8.out).box (by omega) _ _).drew1⟩,(HS8.out.fr.box HS8.out.h0 (by have:=HS8.out.hb;have:=HS8.out.h0;omega) _ _).drew⟩
      ·exact(HX8.out.other (by omega) _ _).other (by omega) _ _
      ·exact(((hkd.set HC5.out.2.1).set HC5.out.2.1).mono HC5.out.2.2).drew1
end Flw
end Go.Proofs.YtalijhclfppohaaGreatDoor
