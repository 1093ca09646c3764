/- . -/
import Derived.Test.YtalijhclfppohaaGreatDoorR12FlowOn
import Derived.Test.YtalijhclfppohaaGreatDoorR02FlowModel2
import Derived.Test.YtalijhclfppohaaGreatDoorR25FlowCont
import Derived.Test.YtalijhclfppohaaGreatDoorR10QuotePlain5
import Derived.Test.YtalijhclfppohaaGreatDoorR14BlockMem
set_option linter.unusedSimpArgs false
set_option linter.unusedVariables false
set_option maxRecDepth 100000
namespace Go.Proofs.YtalijhclfppohaaGreatDoor
namespace Flw
open Utf Rws Pln
open Go.RowKit
set_option maxHeartbeats 4000000
def alk (f:Tr->Nat->Option Nat) (map:Bool):Nat->List Tr->Nat->Option Nat
 | _,[],n=>some n
 | i,t::ts,n=>if (map && decide (i % 2=0))=true/\kyl t.kind t.anc=false then none else match f t n with | none=>none | some n'=>alk f map (i+1) ts n'
def alw:Nat->Nat->Tr->Nat->Option Nat
 | 0,_,_,_=>none
 | d+1,deep,t,n =>
  if n+1>4096\/(if isLst t=true then deep+1 else deep)>64\/ral t.kind t.text t.anc t.kids.length=false then none
  else alk (fun k m=>alw d (if isLst t=true then deep+1 else deep) k m) (decide (t.kind=6)) 0 t.kids (n+1)
def bri (B:Nat):Nat->Tr->Prop
 | 0,_=>False
 | d+1,t=>t.text.length<=B/\t.anc.length<=B/\∀ i,i<t.kids.length->bri B d (t.kids.getD i tr0)
theorem bri.mono {B B':Nat} (hB:B<=B'):∀ {d:Nat} {t:Tr},bri B d t->bri B' d t
 | 0,_,h=>h
 | d+1,t,h=>⟨Nat.le_trans h.1 hB,Nat.le_trans h.2.1 hB,fun i hi=>bri.mono hB (h.2.2 i hi)⟩
theorem bri.more {B:Nat}:∀ {d d':Nat} {t:Tr},bri B d t->d<=d'->bri B d' t
 | 0,_,_,h,_=>h.elim
 | d+1,d',t,h,hd=>by
  obtain⟨e,rfl⟩:∃ e,d'=e+1:=⟨d'-1,by omega⟩;exact⟨h.1,h.2.1,fun i hi=>bri.more (h.2.2 i hi) (by omega)⟩
abbrev brief:Nat->Tr->Prop:=bri 65536
structure Jg (W w:World) (L KB n:Nat) (tc:Array Value):Prop where
 j:Bx w L #[.int .i64 (n:Int)] 86
 t:Bx w KB tc 35
 bl:Below W.heap.size W w
 hl:W.heap.size<=L
 hk:L<KB
theorem Jg.fr {W w w1:World} {L KB n m:Nat} {tc:Array Value} (h:Jg W w L KB n tc) (hf:Fr L w w1) (hj:Bx w1 L #[.int .i64 (m:Int)] 86):Jg W w1 L KB m tc :=
 ⟨hj,h.t.fr hf h.hk,h.bl.trans (hf.1.mono h.hl),h.hl,h.hk⟩
theorem Jg.later {W w w1:World} {L KB n:Nat} {tc:Array Value} (h:Jg W w L KB n tc) (hb:Below w.heap.size w w1):Jg W w1 L KB n tc :=
 ⟨h.j.later hb,h.t.later hb,h.bl.trans (hb.mono h.bl.size),h.hl,h.hk⟩
theorem alk_at (f:Tr->Nat->Option Nat) (mp:Bool) (j:Nat) (ks:List Tr) (m:Nat) (h:j<ks.length):alk f mp j (ks.drop j) m=if (mp && decide (j % 2=0))=true/\kyl (ks.getD j tr0).kind (ks.getD j tr0).anc=false then none else match f (ks.getD j tr0) m with | none=>none | some n'=>alk f mp (j+1) (ks.drop (j+1)) n':=by
 rw[List.drop_eq_getElem_cons h,List.getD_eq_getElem?_getD,List.getElem?_eq_getElem h];rfl
theorem TrV.four {w:World} {d:Nat} {c0 c1 c2 c3:Value} {t:Tr} (h:TrV w d (.agg #[c0,c1,c2,c3]) t):∃ (ad:Option Addr) (len cap:Nat),c0=.int .i64 t.kind/\c1=.string (mk t.text)/\c2=.string (mk t.anc)/\c3=.slice ad len cap:=by
 cases d with
 | zero=>exact h.elim
 | succ d =>
  obtain⟨ad,len,cap,e,_⟩:=h;simp only[Value.agg.injEq,Array.mk.injEq,List.cons.injEq,and_true]at e;exact⟨ad,len,cap,e.1,e.2.1,e.2.2.1,e.2.2.2⟩
structure Jk (W w wr:World) (L KB KK n:Nat) (tc kc:Array Value):Prop where
 g:Jg W wr L KB n tc
 f:Fr L w wr
 k:Bx wr KK kc 35
theorem Jk.later {W w w1 w2:World} {L KB KK n:Nat} {tc kc:Array Value} (h:Jk W w w1 L KB KK n tc kc) (hb:Below w1.heap.size w1 w2):Jk W w w2 L KB KK n tc kc :=
 ⟨h.g.later hb,h.f.trans (Fr.of hb h.g.j.lt),h.k.later hb⟩
def AlOk (W:World) (L d dd:Nat) (f:Tr->Nat->Option Nat) (P:Tr->Prop):Prop:=∀ (v:Value) (t:Tr) (w:World) (n:Nat),P t->TrV W d v t->Below W.heap.size W w->n<=4096->Bx w L #[.int .i64 (n:Int)] 86 ->
 Calls Tryz.prog 45 #[.pointer (some ⟨L,0,none⟩),v,.int .i64 (dd:Int)] w fun e w'=>∃ q:Bool,e=.returned (.bool q)/\q=(f t n).isSome/\Fr L w w'/\∀ n',f t n=some n'->n'<=4096/\Bx w' L #[.int .i64 (n':Int)] 86
theorem allows_core (k:Int) (x a:Ln) (ad:Option Addr) (len cap:Nat) (W w:World) (L deep n d:Nat) (ks:List Tr) (hl:len<=9223372036854775807) (hx:x.length<=2147483648) (ha:a.length<=2147483648)
  (HK:Hid (KAt W d ad len ks)) (HBW:Hid (Below W.heap.size W w)) (HTW:Hid (Tb W)) (hd:deep<=64) (hn:n<=4096) (hWL:W.heap.size<=L) (hJ:Bx w L #[.int .i64 (n:Int)] 86)
  (f:Tr->Nat->Option Nat) (dd:Nat) (hdd:dd=if isLst ⟨k,x,a,ks⟩=true then deep+1 else deep) (P:Tr->Prop) (hP:∀ i,i<ks.length->P (ks.getD i tr0))
  (HI:Hid (dd<=64->AlOk W L d dd f P))
  (R:Bool->World->Prop) (hF:Hid (∀ w',(n+1>4096\/dd>64\/ral k x a len=false\/alk f (decide (k=6)) 0 ks (n+1)=none)->Fr L w w'->R false w'))
  (hT:Hid (∀ w' n',n+1<=4096->dd<=64->ral k x a len=true->alk f (decide (k=6)) 0 ks (n+1)=some n'->n'<=4096->Fr L w w'->Bx w' L #[.int .i64 (n':Int)] 86->R true w')) :
  Calls Tryz.prog 45 #[.pointer (some ⟨L,0,none⟩),tv k x a ad len cap,.int .i64 (deep:Int)] w fun e w'=>∃ q:Bool,e=.returned (.bool q)/\R q w':=by
 have hLw:=hJ.lt;have hcl:w.cell? ⟨L,0,none⟩=some (.int .i64 (n:Int)):=hJ.cell 0;have hfr:=hJ.fz 0;have hs1:(w.setCell ⟨L,0,none⟩ (.int .i64 ((n+1:Nat):Int))).heap.size=w.heap.size:=World.size_setCell _ _ _
 have hJ1:Jg W ((w.setCell ⟨L,0,none⟩ (.int .i64 ((n+1:Nat):Int))).alloc (.cells #[.int .i64 k,.string (mk x),.string (mk a),.slice ad len cap] 35)) L w.heap.size (n+1) #[.int .i64 k,.string (mk x),.string (mk a),.slice ad len cap]:=by
  have hb:=below_alloc (w.setCell ⟨L,0,none⟩ (.int .i64 ((n+1:Nat):Int))) (.cells #[.int .i64 k,.string (mk x),.string (mk a),.slice ad len cap] 35);have hx2:=Bx.new (w.setCell ⟨L,0,none⟩ (.int .i64 ((n+1:Nat):Int))) #[.int .i64 k,.string (mk x),.string (mk a),.slice ad len cap] 35;rw[hs1]at hx2;exact⟨(hJ.set 0 (.int .i64 ((n+1:Nat):Int))).later hb,hx2,(HBW.out.setCell (p:=⟨L,0,none⟩) hWL _).trans (hb.mono (by rw[hs1];exact HBW.out.size)),hWL,hLw⟩
 have hF1:Fr L w ((w.setCell ⟨L,0,none⟩ (.int .i64 ((n+1:Nat):Int))).alloc (.cells #[.int .i64 k,.string (mk x),.string (mk a),.slice ad len cap] 35)):=(Fr.refl.set 0 _).trans (Fr.of (below_alloc _ _) (by rw[hs1];exact hLw));go_enter Tryz.func45,Tryz.ntmps45;go_wp2_with fail;rw[show ((n:Int)+1)=((n+1:Nat):Int) by omega];generalize ((w.setCell ⟨L,0,none⟩ (.int .i64 ((n+1:Nat):Int))).alloc (.cells #[.int .i64 k,.string (mk x),.string (mk a),.slice ad len cap] 35))=w1 at hJ1 hF1 |-;generalize hKB:w.heap.size=KB at hJ1 |-
 have HIL:Hid (Calls Tryz.prog 73 #[.agg #[.int .i64 k,.string (mk x),.string (mk a),.slice ad len cap]] w1 fun e w'=>e=.returned (.bool (isLst ⟨k,x,a,ks⟩))/\Hid (Jg W w' L KB (n+1) #[.int .i64 k,.string (mk x),.string (mk a),.slice ad len cap]/\Fr L w w')) :=
  (isList_any k (mk x) (mk a) ad len cap w1).mono (fun e w' h=>⟨h.1,hJ1.later h.2,hF1.trans (Fr.of h.2 hJ1.j.lt)⟩)
 clear hKB hJ1 hF1 hcl hfr hs1 hJ HBW hLw;refine HIL.out.mono ?_;rintro e w2 ⟨rfl,H2⟩;clear HIL;cases hLL:isLst ⟨k,x,a,ks⟩
 case' false =>
  rw[hLL,if_neg (by decide)]at hdd;subst hdd;go_upto_region 4 with fail
 case' true =>
  rw[hLL,if_pos rfl]at hdd;go_upto_region 4 with fail
  rw[show ((deep:Int)+1)=(dd:Int) by omega];clear hdd
 all_goals
  by_cases h1:4096<n+1
  ·have g0:w2.cell? ⟨L,0,none⟩=some (.int .i64 ((n+1:Nat):Int)):=H2.out.1.j.cell 0;have h1':(4096:Int)<(n:Int)+1:=by omega
   go_wp2;go_ret
   first | exact⟨false,rfl,hF.out _ (.inl (by omega)) H2.out.2⟩ | exact .inl ⟨rfl,hF.out _ (.inl (by omega)) H2.out.2⟩
  have g0:w2.cell? ⟨L,0,none⟩=some (.int .i64 ((n+1:Nat):Int)):=H2.out.1.j.cell 0;have h1': ¬ (4096:Int)<(n:Int)+1:=by omega
  by_cases h2:64<dd
  ·have h2':(64:Int)<(dd:Int):=by omega
   first
   | (exfalso;omega)
   | (go_wp2;go_ret;first | exact⟨false,rfl,hF.out _ (.inr (.inl (by omega))) H2.out.2⟩ | exact .inl ⟨rfl,hF.out _ (.inr (.inl (by omega))) H2.out.2⟩)
  have h2': ¬ (64:Int)<(dd:Int):=by omega
  obtain⟨g1,g2,g3,g4⟩:=H2.out.1.t.c4
  have HRA:Hid (Calls Tryz.prog 74 #[.agg #[.int .i64 k,.string (mk x),.string (mk a),.slice ad len cap]] w2 fun e w'=>e=.returned (.bool (ral k x a len))/\Hid (Jg W w' L KB (n+1) #[.int .i64 k,.string (mk x),.string (mk a),.slice ad len cap]/\Fr L w w')) :=
   (rightAlone_any hx ha hl (HTW.out.later H2.out.1.bl)).mono (fun e w' h=>⟨h.1,H2.out.1.later h.2,H2.out.2.trans (Fr.of h.2 H2.out.1.j.lt)⟩)
  obtain⟨mp,HM⟩:∃ mp,Hid (mp=decide (k=6)):=⟨_,rfl⟩;rw[<-HM.out]at hF hT;cases hra:ral k x a len
  ·rw[hra]at HRA;go_wp2_with (go_at_call 74;refine HRA.out.mono ?_;rintro e w3 ⟨rfl,H3⟩);go_ret
   first | exact⟨false,rfl,hF.out _ (.inr (.inr (.inl hra))) H3.out.2⟩ | exact .inl ⟨rfl,hF.out _ (.inr (.inr (.inl hra))) H3.out.2⟩
  ·rw[hra]at HRA;go_wp2_with (go_at_call 74;refine HRA.out.mono ?_;rintro e w3 ⟨rfl,H3⟩;have e3:w3.cell? ⟨KB,3,none⟩=some (.slice ad len cap):=H3.out.1.t.cell 3);have HA0:Hid (alk f mp 0 ks (n+1)=alk f mp 0 (ks.drop 0) (n+1)):=rfl;clear HRA g0 g1 g2 g3 g4 H2 e3
   go_loopw [37] (fun i wr=>∃ j m:Nat,j<=len/\i=.int .i64 j/\m<=4096/\Hid (Jg W wr L KB m #[.int .i64 k,.string (mk x),.string (mk a),.slice ad len cap]/\Fr L w wr)/\Hid (alk f mp 0 ks (n+1)=alk f mp j (ks.drop j) m)) (fun i _=>len-(intOf i).toNat)
   case atStart=>exact⟨0,n+1,Nat.zero_le _,rfl,by omega,H3,HA0⟩
   case round =>
    obtain⟨j,m,hj,rfl,hm,HJ,HA⟩:=hrel;clear H3 HA0;by_cases hlt:j<len
    ·have hlk:j<ks.length:=by have:=HK.out.1;omega
     obtain⟨b,off,rfl,hb,hcell⟩:=HK.out.2 (by omega);obtain⟨c0,c1,c2,c3,x0,x1,x2,x3,hx'⟩:=hcell j hlt;replace x0:=(HJ.out.1.bl.cell (p:=⟨b,off+j*4,none⟩) hb).trans x0;replace x1:=(HJ.out.1.bl.cell (p:=⟨b,off+j*4+1,none⟩) hb).trans x1;replace x2:=(HJ.out.1.bl.cell (p:=⟨b,off+j*4+2,none⟩) hb).trans x2;replace x3:=(HJ.out.1.bl.cell (p:=⟨b,off+j*4+3,none⟩) hb).trans x3;have HV:Hid (TrV W d (.agg #[c0,c1,c2,c3]) (ks.getD j tr0)):=hx';obtain⟨ad',len',cap',rfl,rfl,rfl,rfl⟩:=hx'.four;clear hcell hx';have HPk:Hid (P (ks.getD j tr0)):=hP j hlk;have HAT:Hid (alk f mp 0 ks (n+1)=if (mp && decide (j % 2=0))=true/\kyl (ks.getD j tr0).kind (ks.getD j tr0).anc=false then none else match f (ks.getD j tr0) m with | none=>none | some n'=>alk f mp (j+1) (ks.drop (j+1)) n'):=HA.out.trans (alk_at f mp j ks m hlk);clear HA;generalize ks.getD j tr0=t' at x0 x1 x2 x3 HV HPk HAT;obtain⟨k',y',a',ks'⟩:=t';simp only at x0 x1 x2 x3 HV HAT;have H4:Hid (Jk W w (wr.alloc (.cells #[.int .i64 k',.string (mk y'),.string (mk a'),.slice ad' len' cap'] 35)) L KB wr.heap.size m #[.int .i64 k,.string (mk x),.string (mk a),.slice (some ⟨b,off,none⟩) len cap] #[.int .i64 k',.string (mk y'),.string (mk a'),.slice ad' len' cap']):=⟨HJ.out.1.later (below_alloc _ _),HJ.out.2.trans (Fr.of (below_alloc _ _) HJ.out.1.j.lt),Bx.new _ _ _⟩;go_upto_region 9 with fail
     generalize wr.alloc (.cells #[.int .i64 k',.string (mk y'),.string (mk a'),.slice ad' len' cap'] 35)=w4 at H4 |-;generalize wr.heap.size=KK at H4 |-;obtain⟨q1,HQ1⟩:∃ q1,Hid (q1=(mp && decide (j % 2=0))):=⟨_,rfl⟩;obtain⟨q2,HQ2⟩:∃ q2,Hid (q2=kyl k' a'):=⟨_,rfl⟩;rw[<-HQ1.out,<-HQ2.out]at HAT;have HKP:Hid (∀ w',Hid (Jk W w w' L KB KK m #[.int .i64 k,.string (mk x),.string (mk a),.slice (some ⟨b,off,none⟩) len cap] #[.int .i64 k',.string (mk y'),.string (mk a'),.slice ad' len' cap'])->Calls Tryz.prog 75 #[.agg #[.int .i64 k,.string (mk x),.string (mk a),.slice (some ⟨b,off,none⟩) len cap],.int .i64 (j:Int)] w' fun e w''=>e=.returned (.bool q1)/\Hid (Jk W w w'' L KB KK m #[.int .i64 k,.string (mk x),.string (mk a),.slice (some ⟨b,off,none⟩) len cap] #[.int .i64 k',.string (mk y'),.string (mk a'),.slice ad' len' cap'])):=fun w' h=>(isKeyPlace_any j (by omega)).mono (fun e w'' g=>⟨by rw[g.1,HQ1.out,HM.out],h.out.later g.2⟩)
     have HKY:Hid (∀ w',Hid (Jk W w w' L KB KK m #[.int .i64 k,.string (mk x),.string (mk a),.slice (some ⟨b,off,none⟩) len cap] #[.int .i64 k',.string (mk y'),.string (mk a'),.slice ad' len' cap'])->Calls Tryz.prog 76 #[.agg #[.int .i64 k',.string (mk y'),.string (mk a'),.slice ad' len' cap']] w' fun e w''=>e=.returned (.bool q2)/\Hid (Jk W w w'' L KB KK m #[.int .i64 k,.string (mk x),.string (mk a),.slice (some ⟨b,off,none⟩) len cap] #[.int .i64 k',.string (mk y'),.string (mk a'),.slice ad' len' cap'])):=fun w' h=>isKey_any.mono (fun e w'' g=>⟨by rw[g.1,HQ2.out],h.out.later g.2⟩)
     have HAL:Hid (∀ w',Hid (Jk W w w' L KB KK m #[.int .i64 k,.string (mk x),.string (mk a),.slice (some ⟨b,off,none⟩) len cap] #[.int .i64 k',.string (mk y'),.string (mk a'),.slice ad' len' cap'])->Calls Tryz.prog 45 #[.pointer (some ⟨L,0,none⟩),.agg #[.int .i64 k',.string (mk y'),.string (mk a'),.slice ad' len' cap'],.int .i64 (dd:Int)] w' fun e w''=>∃ q:Bool,e=.returned (.bool q)/\Hid (q=(f ⟨k',y',a',ks'⟩ m).isSome/\Fr L w w''/\∀ n',f ⟨k',y',a',ks'⟩ m=some n'->n'<=4096/\Jg W w'' L KB n' #[.int .i64 k,.string (mk x),.string (mk a),.slice (some ⟨b,off,none⟩) len cap])) :=
      fun w' h=>(HI.out (by omega) _ _ _ m HPk.out HV.out h.out.g.bl hm h.out.g.j).mono (fun e w'' ⟨q,g1,g2,g3,g4⟩=>⟨q,g1,g2,h.out.f.trans g3,fun n' hn'=>⟨(g4 n' hn').1,h.out.g.fr g3 (g4 n' hn').2⟩⟩)
     obtain⟨u0,u1,u2,u3⟩:=H4.out.g.t.c4;clear HQ1 HQ2 HV HPk HJ x0 x1 x2 x3 HI;cases q1
     ·go_wp2_with (first | (go_at_call 75;refine(HKP.out _ H4).mono ?_;rintro e w5 ⟨rfl,H5⟩;have v0:w5.cell? ⟨KK,0,none⟩=some (.int .i64 k'):=H5.out.k.cell 0;have v1:w5.cell? ⟨KK,1,none⟩=some (.string (mk y')):=H5.out.k.cell 1;have v2:w5.cell? ⟨KK,2,none⟩=some (.string (mk a')):=H5.out.k.cell 2;have v3:w5.cell? ⟨KK,3,none⟩=some (.slice ad' len' cap'):=H5.out.k.cell 3) | (go_at_call 45;refine(HAL.out _ H5).mono ?_;rintro e w7 ⟨q,rfl,H7⟩;cases q))
      ·have HN:f ⟨k',y',a',ks'⟩ m=none:=by
        have:=H7.out.1
        cases hf:f ⟨k',y',a',ks'⟩ m with
        | none=>rfl
        | some v=>rw[hf]at this;cases this
       have HE:alk f mp 0 ks (n+1)=none:=by rw[HAT.out,if_neg (fun h=>Bool.noConfusion h.1),HN]
       go_ret
       first | exact⟨false,rfl,hF.out _ (.inr (.inr (.inr (HE)))) H7.out.2.1⟩ | exact .inl ⟨rfl,hF.out _ (.inr (.inr (.inr (HE)))) H7.out.2.1⟩
      ·obtain⟨n',HN⟩:∃ n',Hid (f ⟨k',y',a',ks'⟩ m=some n'):=by
        have:=H7.out.1
        cases hf:f ⟨k',y',a',ks'⟩ m with
        | none=>rw[hf]at this;cases this
        | some v=>exact⟨v,rfl⟩
       have HE:Hid (alk f mp 0 ks (n+1)=alk f mp (j+1) (ks.drop (j+1)) n'):=by show _=_;rw[HAT.out,if_neg (fun h=>Bool.noConfusion h.1),HN.out]
       go_roundw
       case rel=>exact⟨j+1,n',by omega,by go_num,(H7.out.2.2 n' HN.out).1,⟨(H7.out.2.2 n' HN.out).2,H7.out.2.1⟩,HE⟩
       case measure=>simp[intOf];omega
     ·cases q2
      ·go_wp2_with (first | (go_at_call 75;refine(HKP.out _ H4).mono ?_;rintro e w5 ⟨rfl,H5⟩;have v0:w5.cell? ⟨KK,0,none⟩=some (.int .i64 k'):=H5.out.k.cell 0;have v1:w5.cell? ⟨KK,1,none⟩=some (.string (mk y')):=H5.out.k.cell 1;have v2:w5.cell? ⟨KK,2,none⟩=some (.string (mk a')):=H5.out.k.cell 2;have v3:w5.cell? ⟨KK,3,none⟩=some (.slice ad' len' cap'):=H5.out.k.cell 3) | (go_at_call 76;refine(HKY.out _ H5).mono ?_;rintro e w6 ⟨rfl,H6⟩;have z0:w6.cell? ⟨KK,0,none⟩=some (.int .i64 k'):=H6.out.k.cell 0;have z1:w6.cell? ⟨KK,1,none⟩=some (.string (mk y')):=H6.out.k.cell 1;have z2:w6.cell? ⟨KK,2,none⟩=some (.string (mk a')):=H6.out.k.cell 2;have z3:w6.cell? ⟨KK,3,none⟩=some (.slice ad' len' cap'):=H6.out.k.cell 3));have HE:alk f mp 0 ks (n+1)=none:=HAT.out.trans (if_pos (by simp));go_ret
       first | exact⟨false,rfl,hF.out _ (.inr (.inr (.inr (HE)))) H6.out.f⟩ | exact .inl ⟨rfl,hF.out _ (.inr (.inr (.inr (HE)))) H6.out.f⟩
      ·go_wp2_with (first | (go_at_call 75;refine(HKP.out _ H4).mono ?_;rintro e w5 ⟨rfl,H5⟩;have v0:w5.cell? ⟨KK,0,none⟩=some (.int .i64 k'):=H5.out.k.cell 0;have v1:w5.cell? ⟨KK,1,none⟩=some (.string (mk y')):=H5.out.k.cell 1;have v2:w5.cell? ⟨KK,2,none⟩=some (.string (mk a')):=H5.out.k.cell 2;have v3:w5.cell? ⟨KK,3,none⟩=some (.slice ad' len' cap'):=H5.out.k.cell 3) | (go_at_call 76;refine(HKY.out _ H5).mono ?_;rintro e w6 ⟨rfl,H6⟩;have z0:w6.cell? ⟨KK,0,none⟩=some (.int .i64 k'):=H6.out.k.cell 0;have z1:w6.cell? ⟨KK,1,none⟩=some (.string (mk y')):=H6.out.k.cell 1;have z2:w6.cell? ⟨KK,2,none⟩=some (.string (mk a')):=H6.out.k.cell 2;have z3:w6.cell? ⟨KK,3,none⟩=some (.slice ad' len' cap'):=H6.out.k.cell 3) | (go_at_call 45;refine(HAL.out _ H6).mono ?_;rintro e w7 ⟨q,rfl,H7⟩;cases q))
       ·have HN:f ⟨k',y',a',ks'⟩ m=none:=by
         have:=H7.out.1
         cases hf:f ⟨k',y',a',ks'⟩ m with
         | none=>rfl
         | some v=>rw[hf]at this;cases this
        have HE:alk f mp 0 ks (n+1)=none:=by rw[HAT.out,if_neg (fun h=>Bool.noConfusion h.2),HN]
        go_ret
        first | exact⟨false,rfl,hF.out _ (.inr (.inr (.inr (HE)))) H7.out.2.1⟩ | exact .inl ⟨rfl,hF.out _ (.inr (.inr (.inr (HE)))) H7.out.2.1⟩
       ·obtain⟨n',HN⟩:∃ n',Hid (f ⟨k',y',a',ks'⟩ m=some n'):=by
         have:=H7.out.1
         cases hf:f ⟨k',y',a',ks'⟩ m with
         | none=>rw[hf]at this;cases this
         | some v=>exact⟨v,rfl⟩
        have HE:Hid (alk f mp 0 ks (n+1)=alk f mp (j+1) (ks.drop (j+1)) n'):=by show _=_;rw[HAT.out,if_neg (fun h=>Bool.noConfusion h.2),HN.out]
        go_roundw
        case rel=>exact⟨j+1,n',by omega,by go_num,(H7.out.2.2 n' HN.out).1,⟨(H7.out.2.2 n' HN.out).2,H7.out.2.1⟩,HE⟩
        case measure=>simp[intOf];omega
    ·have HLE:Hid (len=ks.length):=HK.out.1;have e:j=len:=by omega
     subst e;have HE:Hid (alk f mp 0 ks (n+1)=some m):=by show _=_;rw[HA.out,HLE.out,List.drop_length];rfl
     go_wp2;go_ret;have G:R true wr:=hT.out wr m (by omega) (by omega) (by first | rfl | exact hra) HE.out hm HJ.out.2 HJ.out.1.j
     first | exact⟨true,rfl,G⟩ | exact .inr ⟨rfl,G⟩
theorem allows_any:∀ (d:Nat) (v:Value) (t:Tr) (W w:World) (L deep n:Nat),bri 2147483648 d t->TrV W d v t->Below W.heap.size W w->Tb W->deep<=64->n<=4096->W.heap.size<=L->Bx w L #[.int .i64 (n:Int)] 86 ->
  Calls Tryz.prog 45 #[.pointer (some ⟨L,0,none⟩),v,.int .i64 (deep:Int)] w fun e w'=>∃ q:Bool,e=.returned (.bool q)/\q=(alw d deep t n).isSome/\Fr L w w'/\∀ n',alw d deep t n=some n'->n'<=4096/\Bx w' L #[.int .i64 (n':Int)] 86
 | 0,v,t,W,w,L,deep,n,hb,h,_,_,_,_,_,_=>h.elim
 | d+1,v,t,W,w,L,deep,n,hbr,h,hb,hT,hd,hn,hWL,hJ=>by
  obtain⟨ad,len,cap,rfl,hl,hcp,hm,hz,hk⟩:=h;obtain⟨k,x,a,ks⟩:=t;simp only at hl hz hk hbr;obtain⟨b1,b2,b3⟩:=hbr;have m1:maxLen=9223372036854775807:=rfl
  refine allows_core k x a ad len cap W w L deep n d ks (by omega) b1 b2 ⟨hl,hk⟩ hb hT hd hn hWL hJ (fun k' m=>alw d (if isLst ⟨k,x,a,ks⟩=true then deep+1 else deep) k' m) _ rfl (bri 2147483648 d) b3
   (fun hdd v t w n hp ht hb hn hj=>allows_any d v t W w L _ n hp ht hb hT hdd hn hWL hj)
   (fun q w'=>q=(alw (d+1) deep ⟨k,x,a,ks⟩ n).isSome/\Fr L w w'/\∀ n',alw (d+1) deep ⟨k,x,a,ks⟩ n=some n'->n'<=4096/\Bx w' L #[.int .i64 (n':Int)] 86) ?_ ?_
  ·intro w' hc hf
   have e:alw (d+1) deep ⟨k,x,a,ks⟩ n=none:=by
    unfold alw;rw[<-hl];rcases hc with hc | hc | hc | hc
    ·exact if_pos (.inl hc)
    ·exact if_pos (.inr (.inl hc))
    ·exact if_pos (.inr (.inr hc))
    ·by_cases hq:n+1>4096\/(if isLst ⟨k,x,a,ks⟩=true then deep+1 else deep)>64\/ral k x a len=false
     ·exact if_pos hq
     ·exact(if_neg hq).trans hc
   rw[e];exact⟨rfl,hf,fun n' h=>nomatch h⟩
  ·intro w' n' h1 h2 h3 h4 h5 hf hj
   have e:alw (d+1) deep ⟨k,x,a,ks⟩ n=some n':=by
    unfold alw;rw[<-hl,if_neg (by rw[h3];intro h;rcases h with h | h | h<;>first | omega | exact Bool.noConfusion h)];exact h4
   rw[e];exact⟨rfl,hf,fun m hm=>by cases hm;exact⟨h5,hj⟩⟩
end Flw
namespace Flw
open Utf Rws Pln
open Go.RowKit
set_option maxHeartbeats 4000000
def rgh (d:Nat) (t:Tr):Bool:=(alw d 0 t 0).isSome
theorem TrV.open4 {w:World} {d:Nat} {v:Value} {t:Tr} (h:TrV w d v t):∃ (ad:Option Addr) (len cap:Nat),v=tv t.kind t.text t.anc ad len cap:=by
 cases d with
 | zero=>exact h.elim
 | succ d =>
  obtain⟨ad,len,cap,e,_⟩:=h;exact⟨ad,len,cap,e⟩
theorem right_big {d:Nat} {v:Value} {t:Tr} {w:World} (hb:bri 2147483648 d t) (h:TrV w d v t) (hT:Tb w):Calls Tryz.prog 27 #[v] w fun e w'=>e=.returned (.bool (rgh d t))/\Below w.heap.size w w':=by
 obtain⟨ad,len,cap,hv⟩:=h.open4
 have HC:Hid (∀ c,Calls Tryz.prog 45 #[.pointer (some ⟨w.heap.size+1,0,none⟩),v,.int .i64 0] ((w.alloc (.cells c 35)).alloc (.cells #[.int .i64 0] 86)) fun e w'=>e=.returned (.bool (rgh d t))/\Hid (Below w.heap.size w w')):=fun c=>by
  have b1:=below_alloc w (.cells c 35);have s1:(w.alloc (.cells c 35)).heap.size=w.heap.size+1:=World.size_alloc _ _;have b2:=below_alloc (w.alloc (.cells c 35)) (.cells #[.int .i64 0] 86);have b3:=b1.trans (b2.mono (by omega));have n1:=Bx.new (w.alloc (.cells c 35)) #[.int .i64 0] 86;rw[s1]at n1;exact(allows_any d v t w _ (w.heap.size+1) 0 0 hb h b3 hT (by omega) (by omega) (by omega) n1).mono (fun e w' ⟨q,h1,h2,h3,h4⟩=>⟨by rw[h1,h2];rfl,b3.trans (h3.1.mono (by omega))⟩)
 generalize rgh d t=q at HC |-;clear hb h hT;subst hv;generalize t.kind=k at *;generalize t.text=x at *;generalize t.anc=a at *;go_enter Tryz.func27,Tryz.ntmps27;go_wp2_with (go_at_call 45;refine(HC.out _).mono ?_;rintro e w1 ⟨rfl,H1⟩);go_ret;exact⟨rfl,H1.out⟩
end Flw
namespace Flw
open Utf Rws Pln
open Go.RowKit
end Flw
namespace Flw
open Utf Rws Pln
open Go.RowKit
set_option maxHeartbeats 4000000
variable {b p dp d:Nat} {s:Ln} {w w1 w2:World}
theorem value_all:∀ (d dp:Nat),dp+d=64->∀ (b:Nat) (s:Ln) (f:Bool) (w:World) (p:Nat),Rd w b s p dp->p<=s.length->s.length<=65536->TbB b w ->
  Calls Tryz.prog 135 #[.pointer (some ⟨b,0,none⟩),.bool f] w fun e w'=>ValRes b s dp w (d+1) (lval d f (s.drop p)) e w'
 | 0,dp,hd,b,s,f,w,p,h,hp,hs,hT=>by
  have hdp:dp=64:=by omega
  subst hdp;exact value_any (inner:=none) f (fun w' p' h1 h2 h3 h4=>⟨bracket_deep _ _ h1 h2 hs,bracket_deep _ _ h1 h2 hs⟩) (fun v hv=>by cases hv) h hp hs hT
 | d+1,dp,hd,b,s,f,w,p,h,hp,hs,hT=>by
  have hV:ValOk b s (dp+1) (d+1) (fun m=>lval d true m):=fun w' p' h1 h2 h3=>value_all d (dp+1) (by omega) b s true w' p' h1 h2 hs h3
  have hbd:∀ l,Bad ((fun m=>lval d true m) l):=fun l=>lval_bad d true l
  have hb:BrkOk b s dp (d+1) (some fun m=>lval d true m):=fun w' p' h1 h2 h3 h4 =>
   ⟨bracket_any 170 (enters_of Tryz.func170 (by kernel_rfl) rfl) false 93 rfl (by decide) (vf:=fun m=>lval d true m) (fun w2 p2 g1 g2 g3=>item_any hV (fun l e he=>hbd l e he) g1 g2 hs g3) (fun l e he=>lpart_bad hbd false l e he) (fun l=>lval_adv d true l) h1 h2 hs h3 (by omega) h4,
    bracket_any 171 (enters_of Tryz.func171 (by kernel_rfl) rfl) true 125 rfl (by decide) (vf:=fun m=>lval d true m) (fun w2 p2 g1 g2 g3=>entry_any hV (fun l e he=>hbd l e he) g1 g2 hs g3 (by omega)) (fun l e he=>lpart_bad hbd true l e he) (fun l=>lval_adv d true l) h1 h2 hs h3 (by omega) h4⟩
  exact value_any (inner:=some fun m=>lval d true m) f hb (fun v hv=>by cases hv;exact hbd) h hp hs hT
structure SW (w0 w:World) (K0 K1:Nat):Prop where
 k0:Bx w K0 zT 35
 k1:Bx w K1 zF 32
 bl:Below w0.heap.size w0 w
 h0:w0.heap.size<=K0
 h1:K0<K1
variable {K0 K1:Nat} {w0:World}
theorem SW.later (h:SW w0 w K0 K1) (hb:Below w.heap.size w w1):SW w0 w1 K0 K1:=⟨h.k0.later hb,h.k1.later hb,h.bl.trans (hb.mono h.bl.size),h.h0,h.h1⟩
theorem SW.fr (h:SW w0 w K0 K1) (hf:Fr b w w1) (hb:K1<b):SW w0 w1 K0 K1:=by
 have:=h.h0;have:=h.h1;exact⟨(hf.1.block _ (by omega)).trans h.k0,(hf.1.block _ (by omega)).trans h.k1,h.bl.trans (hf.1.mono (by omega)),h.h0,h.h1⟩
theorem SW.c (h:SW w0 w K0 K1):S2C w K0 K1:=⟨h.k0.cell 0,h.k0.cell 1,h.k0.cell 2,h.k0.cell 3,h.k1.cell 0,h.k1.cell 1,h.k0.fz 0,h.k0.fz 1,h.k0.fz 2,h.k0.fz 3,h.k1.fz 0,h.k1.fz 1⟩
theorem SW.out (h:SW w0 w K0 K1) (x0 x1 x2 x3 y0 y1:Value):Below w0.heap.size w0 (fill6 w K0 K1 x0 x1 x2 x3 y0 y1)/\Bx (fill6 w K0 K1 x0 x1 x2 x3 y0 y1) K0 #[x0,x1,x2,x3] 35/\Bx (fill6 w K0 K1 x0 x1 x2 x3 y0 y1) K1 #[y0,y1] 32:=by
 have:=h.h0;have:=h.h1;exact⟨((below_fill4 h.bl h.h0 x0 x1 x2 x3).setCell (p:=⟨K1,0,none⟩) (by show w0.heap.size<=K1;omega) _).setCell (p:=⟨K1,1,none⟩) (by show w0.heap.size<=K1;omega) _,((h.k0.fill4 rfl x0 x1 x2 x3).other (by omega) _ _).other (by omega) _ _,((h.k1.fill4o (by omega) x0 x1 x2 x3).set 0 y0).set 1 y1⟩
end Flw
namespace Flw
open Utf Rws Pln
open Go.RowKit
theorem rdF_short (q:UInt8):∀ (f:Nat) (l:Ln) (at_:Nat) (out:Ln),out.length<=at_->(Quo.rdF q f l at_ out).2.2.1=0->(Quo.rdF q f l at_ out).1.length<=(Quo.rdF q f l at_ out).2.1
 | 0,l,at_,out,ho,h=>by simp[Quo.rdF]at h
 | f+1,l,at_,out,ho,h=>by
  rw[Quo.rdF]at h |-;by_cases h1:(Quo.stp q l).1=0
  ·rw[if_pos h1];show out.length<=at_+1;omega
  rw[if_neg h1]at h |-;by_cases h2:(Quo.stp q l).1=1
  ·rw[if_pos h2]at h |-;exact rdF_short q f _ _ _ (by have:=Quo.stp_le h2;rw[List.length_append];omega) h
  rw[if_neg h2]at h;by_cases h4:(Quo.stp q l).1=4
  ·rw[if_pos h4]at h;cases h
  ·rw[if_neg h4]at h;exact absurd h h1
theorem rd_short (l:Ln) (h:(Quo.rd l).2.2.1=0):(Quo.rd l).1.length<=l.length:=by
 have h2:=(Quo.rd_means l h).2.2;refine Nat.le_trans ?_ h2;unfold Quo.rd at h |-;by_cases c1:l=[]
 ·rw[if_pos c1]at h;cases h
 rw[if_neg c1]at h |-;by_cases c2:l.getD 0 0=39\/l.getD 0 0=34
 ·rw[if_pos c2]at h |-;exact rdF_short _ _ _ _ _ (by simp) h
 ·rw[if_neg c2]at h;cases h
theorem quoted_short {l:Ln} {x:Ln × Ln} (h:quoted l=.ok x):x.1.length<=l.length:=by
 unfold quoted at h;obtain⟨hn,e⟩:=ite_inv h;cases e;exact rd_short l (by omega)
theorem leaf_short (k:Int) (s a:Ln):(leaf k s a).text.length<=s.length/\(leaf k s a).anc=a/\(leaf k s a).kids=[]:=by
 unfold leaf;refine⟨?_,rfl,rfl⟩;show (if k=1 then []else s).length<=_;split
 ·exact Nat.zero_le _
 ·exact Nat.le_refl _
theorem fits_short {s:Ln} {q:Bool} {p:Pr} {t:Tr} (h:fits s q p=.ok t):t.text.length<=s.length/\t.anc=p.anc/\t.kids=[]:=by
 unfold fits at h;by_cases c4:p.tag=4
 ·rw[if_pos c4]at h;cases h;exact leaf_short _ _ _
 ·rw[if_neg c4]at h;by_cases c0:p.tag≠0
  ·rw[if_pos c0]at h;obtain⟨e,h⟩:=ite_inv h;cases h;exact leaf_short _ _ _
  ·rw[if_neg c0]at h;cases h;exact leaf_short _ _ _
theorem key_short {l:Ln} {x:Tr × Ln} (h:key l=.ok x):x.1.text.length<=l.length/\x.1.anc=[]/\x.1.kids=[]:=by
 unfold key at h;by_cases c:hd l=39\/hd l=34
 ·rw[if_pos c]at h;obtain⟨y,hy,h⟩:=bnd_inv h;cases h;exact⟨quoted_short hy,rfl,rfl⟩
 ·rw[if_neg c]at h;obtain⟨y,hy,h⟩:=bnd_inv h;obtain⟨hn,h⟩:=ite_inv h;cases h;have hq:=plain_inv hy;have:=leaf_short (knd y.1) y.1 [];exact⟨by have:=this.1;show (leaf (knd y.1) y.1 []).text.length<=_;omega,rfl,rfl⟩
theorem prp_short (f:Bool) (B:Nat):∀ (n:Nat) (p:Pr) (l:Ln) (x:Pr × Ln),p.anc.length<=B->l.length<=B->prp f n p l=.ok x->x.1.anc.length<=B
 | 0,p,l,x,hp,hl,h=>by cases h;exact hp
 | n+1,p,l,x,hp,hl,h=>by
  unfold prp at h;by_cases c1:hd l=38/\p.anc=[]
  ·rw[if_pos c1]at h;obtain⟨y,hy,h⟩:=bnd_inv h;obtain⟨r,hr,h⟩:=bnd_inv h;have h1:=nam_inv hy;have h2:=gap_inv hr;have h4:(l.drop 1).length<=l.length:=by rw[List.length_drop];omega
   exact prp_short f B n _ r x (show y.1.length<=B by omega) (by omega) h
  ·rw[if_neg c1]at h;by_cases c2:hd l=33/\hd (l.drop 1)=33/\p.tag=0
   ·rw[if_pos c2]at h;obtain⟨y,hy,h⟩:=bnd_inv h;obtain⟨r,hr,h⟩:=bnd_inv h;have h1:=tag_inv hy;have h2:=gap_inv hr;have h4:(l.drop 2).length<=l.length:=by rw[List.length_drop];omega
    exact prp_short f B n ⟨p.anc,y.1,l.length,true⟩ r x hp (by omega) h
   ·rw[if_neg c2]at h;cases h;exact hp
theorem brief_leaf2 (d:Nat) {t:Tr} (h1:t.text.length<=65536) (h2:t.anc.length<=65536) (h3:t.kids=[]):brief (d+1) t:=⟨h1,h2,fun i hi=>by rw[h3]at hi;exact absurd hi (Nat.not_lt_zero _)⟩
theorem part_short {v:Ln->Ot (Tr × Ln)} {d:Nat} (hv:∀ l x,l.length<=65536->v l=.ok x->brief (d+1) x.1) {map:Bool} {l:Ln} {x:List Tr × Ln} (hl:l.length<=65536) (h:part v map l=.ok x):∀ k∈x.1,brief (d+1) k:=by
 unfold part at h;cases map
 ·rw[if_neg (by decide)]at h;obtain⟨_,h⟩:=ite_inv h;obtain⟨y,hy,h⟩:=bnd_inv h;cases h;intro k hk;simp at hk;rw[hk];exact hv _ _ hl hy
 ·rw[if_pos rfl]at h;obtain⟨k,hk,h⟩:=bnd_inv h;obtain⟨hc,h⟩:=ite_inv h;obtain⟨y,hy,h⟩:=bnd_inv h;cases h;have h1:=key_short hk;have h2:=key_inv hk;have h3:=gaps_len k.2;have h4:((gaps k.2).drop 1).length<=(gaps k.2).length:=by rw[List.length_drop];omega
  intro z hz;simp at hz;rcases hz with rfl | rfl
  ·exact brief_leaf2 d (by omega) (by rw[h1.2.1];simp) h1.2.2
  ·exact hv _ _ (by omega) hy
theorem lst_short {v:Ln->Ot (Tr × Ln)} {d:Nat} (hi:∀ l x,v l=.ok x->rgt d x.1=true/\x.2.length+cntT d x.1<=l.length+1) (hv:∀ l x,l.length<=65536->v l=.ok x->brief (d+1) x.1) (map:Bool) :
  ∀ (n:Nat) (l:Ln) (x:List Tr × Ln),l.length<=65536->lst v map n l=.ok x->∀ k∈x.1,brief (d+1) k
 | 0,l,x,hl,h=>by cases h
 | n+1,l,x,hl,h=>by
  have hg:=gaps_len l;unfold lst at h;by_cases c:hd (gaps l)=endOf map
  ·rw[if_pos c]at h;cases h;intro k hk;cases hk
  ·rw[if_neg c]at h;obtain⟨y,hy,h⟩:=bnd_inv h;have hp:=part_short hv (by omega) hy;have hq:=part_inv hi hy;have hg2:=gaps_len y.2;by_cases c2:hd (gaps y.2)=44
   ·rw[if_pos c2]at h;obtain⟨z,hz,h⟩:=bnd_inv h;cases h;have h4:=hd_ne (l:=gaps y.2) (by rw[c2];decide);have ih:=lst_short hi hv map n _ _ (by have:=hq.2.1;omega) hz;intro k hk;simp at hk;rcases hk with hk | hk
    ·exact hp k hk
    ·exact ih k hk
   ·rw[if_neg c2]at h;by_cases c3:hd (gaps y.2)=endOf map
    ·rw[if_pos c3]at h;cases h;exact hp
    ·rw[if_neg c3]at h;cases h
theorem body_short {inner:Option (Ln->Ot (Tr × Ln))} {f:Bool} {p:Pr} {l:Ln} {x:Tr × Ln} (hl:l.length<=65536) (hp:p.anc.length<=65536) (h:body inner f p l=.ok x) :
  (x.1.text.length<=65536/\x.1.anc.length<=65536/\x.1.kids=[]) \/
  (∃ v map y,inner=some v/\lst v map l.length (l.drop 1)=.ok y/\x=(⟨kindOf map,[],p.anc,y.1⟩,y.2)):=by
 unfold body at h;by_cases c1:hd l=42
 ·rw[if_pos c1]at h;obtain⟨_,h⟩:=ite_inv h;obtain⟨y,hy,h⟩:=bnd_inv h;cases h;have hn:=nam_inv hy;have h4:=hd_ne (l:=l) (by rw[c1];decide);left;exact⟨by simp,by show y.1.length<=_;omega,rfl⟩
 ·rw[if_neg c1]at h;by_cases c2:hd l=91\/hd l=123
  ·rw[if_pos c2]at h
   cases inner with
   | none=>cases h
   | some v =>
    obtain⟨y,hy,h⟩:=bnd_inv h;obtain⟨_,h⟩:=ite_inv h;cases h;right;exact⟨v,_,y,rfl,hy,rfl⟩
  ·rw[if_neg c2]at h;left;by_cases c3:hd l=39\/hd l=34
   ·rw[if_pos c3]at h;obtain⟨y,hy,h⟩:=bnd_inv h;obtain⟨t,ht,h⟩:=bnd_inv h;cases h;have hq:=quoted_short hy;have hf:=fits_short ht;exact⟨by show t.text.length<=_;omega,by show t.anc.length<=_;rw[hf.2.1];exact hp,hf.2.2⟩
   ·rw[if_neg c3]at h;obtain⟨y,hy,h⟩:=bnd_inv h;obtain⟨t,ht,h⟩:=bnd_inv h;cases h;have hq:=plain_inv hy;have hf:=fits_short ht;exact⟨by show t.text.length<=_;omega,by show t.anc.length<=_;rw[hf.2.1];exact hp,hf.2.2⟩
theorem getD_mem {xs:List Tr} {i:Nat} (h:i<xs.length):xs.getD i tr0∈xs:=by
 rw[List.getD_eq_getElem?_getD,List.getElem?_eq_getElem h];exact List.getElem_mem h
theorem val_short:∀ (d:Nat) (f:Bool) (l:Ln) (x:Tr × Ln),l.length<=65536->val d f l=.ok x->brief (d+1) x.1
 | 0,f,l,x,hl,h=>by
  obtain⟨y,hy,h⟩:=bnd_inv (show bnd _ _=_ from h);have h1:=prp_inv f 3 p0 _ _ p0_ok hy;have h2:=gaps_len l;have h3:=prp_short f 65536 3 p0 _ _ (by decide) (by omega) hy;rcases body_short (by omega) h3 h with ⟨a,b,c⟩ | ⟨v,map,z,hv,_⟩
  ·exact brief_leaf2 0 a b c
  ·cases hv
 | d+1,f,l,x,hl,h=>by
  obtain⟨y,hy,h⟩:=bnd_inv (show bnd _ _=_ from h);have h1:=prp_inv f 3 p0 _ _ p0_ok hy;have h2:=gaps_len l;have h3:=prp_short f 65536 3 p0 _ _ (by decide) (by omega) hy;rcases body_short (by omega) h3 h with ⟨a,b,c⟩ | ⟨v,map,z,hv,hz,rfl⟩
  ·exact brief_leaf2 (d+1) a b c
  ·cases hv;have h4:(y.2.drop 1).length<=y.2.length:=by rw[List.length_drop];omega
   have:=lst_short (fun l x hx=>val_inv d true l x hx) (fun l x hl hx=>val_short d true l x hl hx) map _ _ _ (by omega) hz;exact⟨by show ([]:Ln).length<=_;simp,h3,fun i hi=>this _ (getD_mem hi)⟩
/-! ### how long a tree's text is -/
end Flw
namespace Flw
open Utf Rws Pln
open Go.RowKit
set_option maxHeartbeats 8000000
variable {w:World}
def rea (l:Ln) (f:Bool):Tr × Nat × Nat × Nat:=match lval 64 f l with
 | .ok x=>(x.1,l.length-x.2.length,0,0)
 | .error e=>(tr0,0,e.1,l.length-e.2)
def ReaRes (l:Ln) (f:Bool) (w:World) (e:Ending) (w':World):Prop:=∃ v,e=.returned (.tuple #[v,.int .i64 ((rea l f).2.1:Int),.agg #[.int .i64 ((rea l f).2.2.1:Int),.int .i64 ((rea l f).2.2.2:Int)]])/\TrP w.heap.size w' 65 v (rea l f).1/\Below w.heap.size w w'
theorem trP0 {c:Nat}:TrP c w 65 (.agg zT) tr0:=TrP.leaf (c:=c) (w:=w) 0 [] [] (by decide) (by simp) (by simp) 64
theorem read0_any (l:Ln) (fl:Bool) (hle:l.length<=65536) (hT:Tb w):Calls Tryz.prog 118 #[.string (mk l),.bool fl] w fun e w'=>ReaRes l fl w e w':=by
 have hx0:=((Bx.new w zT 35).later (below_alloc (w.alloc (.cells zT 35)) (.cells zF 32))).later (below_alloc ((w.alloc (.cells zT 35)).alloc (.cells zF 32)) (.cells #[.string (mk l),.int .i64 0,.int .i64 0] 167));have hx1:=(Bx.new (w.alloc (.cells zT 35)) zF 32).later (below_alloc ((w.alloc (.cells zT 35)).alloc (.cells zF 32)) (.cells #[.string (mk l),.int .i64 0,.int .i64 0] 167));have hx2:=Bx.new ((w.alloc (.cells zT 35)).alloc (.cells zF 32)) #[.string (mk l),.int .i64 0,.int .i64 0] 167;have e1:(w.alloc (.cells zT 35)).heap.size=w.heap.size+1:=by simp
 have e2:((w.alloc (.cells zT 35)).alloc (.cells zF 32)).heap.size=w.heap.size+1+1:=by simp
 rw[e1]at hx1;rw[e2]at hx2;have hbl:Below w.heap.size w (((w.alloc (.cells zT 35)).alloc (.cells zF 32)).alloc (.cells #[.string (mk l),.int .i64 0,.int .i64 0] 167)):=(below_alloc _ _).trans (((below_alloc _ _).mono (by simp)).trans ((below_alloc _ _).mono (by simp;omega)));go_enter Tryz.func118,Tryz.ntmps118;go_wp2_with fail;change Calls _ _ _ (((w.alloc (.cells zT 35)).alloc (.cells zF 32)).alloc (.cells #[.string (mk l),.int .i64 0,.int .i64 0] 167)) _;generalize ((w.alloc (.cells zT 35)).alloc (.cells zF 32)).alloc (.cells #[.string (mk l),.int .i64 0,.int .i64 0] 167)=W at hx0 hx1 hx2 hbl |-;clear e1 e2;have hk1:w.heap.size<w.heap.size+1:=by omega
 have hk2:w.heap.size+1<w.heap.size+1+1:=by omega
 have hk3:w.heap.size<=w.heap.size+1+1:=by omega
 generalize hB:w.heap.size+1+1=B at hx2 hk2 hk3 |-;generalize hK1:w.heap.size+1=K1 at hx1 hk1 hk2 |-;generalize hK0:w.heap.size=K0 at hx0 hk1 |-;have HS:Hid (SW w W K0 K1):=⟨hx0,hx1,hbl,Nat.le_of_eq hK0,hk1⟩;have hR:Rd W B l 0 0:=hx2;have hTB:TbB B W:=⟨w,hT,hk3,hbl⟩
 have HVA:Hid (Calls Tryz.prog 135 #[.pointer (some ⟨B,0,none⟩),.bool fl] W fun e w'=>ValRes B l 0 W 65 (lval 64 fl l) e w'):=by
  have:=value_all 64 0 (by omega) B l fl W 0 hR (Nat.zero_le _) hle hTB
  rwa [List.drop_zero]at this
 have HWL:Hid (rea l fl=match lval 64 fl l with
   | .ok x=>(x.1,l.length-x.2.length,0,0)
   | .error e=>(tr0,0,e.1,l.length-e.2)):=rfl
 have HWB:Hid (B<W.heap.size):=hx2.lt;clear hB hK1 hK0 hx0 hx1 hx2 hbl hR hTB hk1 hk3 hT;refine HVA.out.mono ?_;intro e w3 hres;have hvb:=lval_bad 64 fl l;generalize hlv:lval 64 fl l=r at hres HWL hvb;clear HVA
 cases r with
 | error F =>
  obtain⟨v,t,ht,rfl,hf3⟩:=hres;obtain⟨k2,x2,a2,ad2,len2,cap2,rfl⟩:=ht.cells;have hF0:=hvb F rfl;have HV:Hid (rea l fl=(tr0,0,F.1,l.length-F.2)):=HWL.out;unfold fv;have HS3:Hid (SW w w3 K0 K1):=HS.out.fr hf3 hk2;clear hf3 ht HS HWL hvb;have hb4:Below w3.heap.size w3 ((w3.alloc (.cells #[.int .i64 k2,.string x2,.string a2,.slice ad2 len2 cap2] 35)).alloc (.cells #[.int .i64 (F.1:Int),.int .i64 ((l.length-F.2:Nat):Int)] 32)):=(below_alloc _ _).trans ((below_alloc _ _).mono (by simp));have hS4:SW w ((w3.alloc (.cells #[.int .i64 k2,.string x2,.string a2,.slice ad2 len2 cap2] 35)).alloc (.cells #[.int .i64 (F.1:Int),.int .i64 ((l.length-F.2:Nat):Int)] 32)) K0 K1:=HS3.out.later hb4;have hT4:=(Bx.new w3 #[.int .i64 k2,.string x2,.string a2,.slice ad2 len2 cap2] 35).later (below_alloc (w3.alloc (.cells #[.int .i64 k2,.string x2,.string a2,.slice ad2 len2 cap2] 35)) (.cells #[.int .i64 (F.1:Int),.int .i64 ((l.length-F.2:Nat):Int)] 32));have hF4:=Bx.new (w3.alloc (.cells #[.int .i64 k2,.string x2,.string a2,.slice ad2 len2 cap2] 35)) #[.int .i64 (F.1:Int),.int .i64 ((l.length-F.2:Nat):Int)] 32;rw[show (w3.alloc (.cells #[.int .i64 k2,.string x2,.string a2,.slice ad2 len2 cap2] 35)).heap.size=w3.heap.size+1 by simp]at hF4;have hq0:K0<w3.heap.size:=HS3.out.k0.lt;have hq1:K1<w3.heap.size:=HS3.out.k1.lt;go_upto_region 4 with fail
  generalize ((w3.alloc (.cells #[.int .i64 k2,.string x2,.string a2,.slice ad2 len2 cap2] 35)).alloc (.cells #[.int .i64 (F.1:Int),.int .i64 ((l.length-F.2:Nat):Int)] 32))=w4 at hb4 hS4 hT4 hF4 |-;have HB4:Hid (Below w3.heap.size w3 w4):=hb4;clear hb4;have hq2:w3.heap.size<w3.heap.size+1:=by omega
  generalize w3.heap.size+1=KF at hF4 hq2 |-;generalize hKT:w3.heap.size=KT at hT4 hq0 hq1 hq2 |-;clear hKT;have HS4:Hid (SW w w4 K0 K1):=hS4;have HT4:Hid (Bx w4 KT #[.int .i64 k2,.string x2,.string a2,.slice ad2 len2 cap2] 35):=hT4;have HF4:Hid (Bx w4 KF #[.int .i64 (F.1:Int),.int .i64 ((l.length-F.2:Nat):Int)] 32):=hF4;obtain⟨i0,i1⟩:=hF4.c2;obtain⟨t0,t1,t2,t3⟩:=hT4.c4;have hkf1:KF≠K0:=by omega
  have hkf2:K0≠KF:=by omega
  have hkf3:KF≠K1:=by omega
  have hkf4:K1≠KF:=by omega
  clear hS4 hT4 hF4;obtain⟨X0,X1,X2,X3,Y0,Y1,Z0,Z1,Z2,Z3,V0,V1⟩:=HS4.out.c;have hd10:K1≠K0:=by have:=HS4.out.h1;omega
  have hd01:K0≠K1:=by omega
  have hF1:((F.1:Int)==0)=false:=by rw[beq_eq_false_iff_ne];omega
  have hF2:((F.1:Int)!=0)=true:=by simpa using hF0
  clear hF0;go_wp2;go_region
  all_goals
   go_wp2;have hO:=HS4.out.out (.int .i64 0) (.string ⟨#[]⟩) (.string ⟨#[]⟩) (.slice none 0 0) (.int .i64 (F.1:Int)) (.int .i64 ((l.length-F.2:Nat):Int));change bodyPost _ _ _ _ _ (fill6 w4 K0 K1 (.int .i64 0) (.string ⟨#[]⟩) (.string ⟨#[]⟩) (.slice none 0 0) (.int .i64 (F.1:Int)) (.int .i64 ((l.length-F.2:Nat):Int))).drew;generalize fill6 w4 K0 K1 (.int .i64 0) (.string ⟨#[]⟩) (.string ⟨#[]⟩) (.slice none 0 0) (.int .i64 (F.1:Int)) (.int .i64 ((l.length-F.2:Nat):Int))=WF at hO |-;obtain⟨o2,o3,o4⟩:=hO;have j0:WF.drew.cell? ⟨K0,0,none⟩=_:=o3.cell 0;have j1:WF.drew.cell? ⟨K0,1,none⟩=_:=o3.cell 1;have j2:WF.drew.cell? ⟨K0,2,none⟩=_:=o3.cell 2;have j3:WF.drew.cell? ⟨K0,3,none⟩=_:=o3.cell 3;have j4:WF.drew.cell? ⟨K1,0,none⟩=_:=o4.cell 0;have j5:WF.drew.cell? ⟨K1,1,none⟩=_:=o4.cell 1;replace o2:=o2.drew;refine bodyPost_ret (v:=.tuple #[.agg #[.int .i64 0,.string ⟨#[]⟩,.string ⟨#[]⟩,.slice none 0 0],.int .i64 0,.agg #[.int .i64 (F.1:Int),.int .i64 ((l.length-F.2:Nat):Int)]]) (by simp[results,Tryz.results118,go_sem,j0,j1,j2,j3,j4,j5]) rfl ?_;exact⟨_,by rw[HV.out];rfl,by rw[HV.out];exact trP0,o2⟩
 | ok r =>
  obtain⟨t,l'⟩:=r;obtain⟨v,rfl,ht,⟨q,hq,hl',hr3⟩,hf3⟩:=hres;simp only at ht hl';subst hl';obtain⟨k2,x2,a2,ad2,len2,cap2,rfl⟩:=ht.cells;unfold f0;have HS3:Hid (SW w w3 K0 K1):=HS.out.fr hf3 hk2;have HR3:Hid (Rd w3 B l q 0):=hr3;have HTP3:Hid (TrP W.heap.size w3 65 (.agg #[.int .i64 k2,.string x2,.string a2,.slice ad2 len2 cap2]) t):=ht;clear hf3 ht hr3 HS hvb hlv;have hb4:Below w3.heap.size w3 ((w3.alloc (.cells #[.int .i64 k2,.string x2,.string a2,.slice ad2 len2 cap2] 35)).alloc (.cells #[.int .i64 0,.int .i64 0] 32)):=(below_alloc _ _).trans ((below_alloc _ _).mono (by simp));have hS4:SW w ((w3.alloc (.cells #[.int .i64 k2,.string x2,.string a2,.slice ad2 len2 cap2] 35)).alloc (.cells #[.int .i64 0,.int .i64 0] 32)) K0 K1:=HS3.out.later hb4;have hT4:=(Bx.new w3 #[.int .i64 k2,.string x2,.string a2,.slice ad2 len2 cap2] 35).later (below_alloc (w3.alloc (.cells #[.int .i64 k2,.string x2,.string a2,.slice ad2 len2 cap2] 35)) (.cells #[.int .i64 0,.int .i64 0] 32));have hF4:=Bx.new (w3.alloc (.cells #[.int .i64 k2,.string x2,.string a2,.slice ad2 len2 cap2] 35)) #[.int .i64 0,.int .i64 0] 32;rw[show (w3.alloc (.cells #[.int .i64 k2,.string x2,.string a2,.slice ad2 len2 cap2] 35)).heap.size=w3.heap.size+1 by simp]at hF4;have hq0:K0<w3.heap.size:=HS3.out.k0.lt;have hq1:K1<w3.heap.size:=HS3.out.k1.lt;go_upto_region 4 with fail
  generalize ((w3.alloc (.cells #[.int .i64 k2,.string x2,.string a2,.slice ad2 len2 cap2] 35)).alloc (.cells #[.int .i64 0,.int .i64 0] 32))=w4 at hb4 hS4 hT4 hF4 |-;have HB4:Hid (Below w3.heap.size w3 w4):=hb4;clear hb4;have hq2:w3.heap.size<w3.heap.size+1:=by omega
  generalize w3.heap.size+1=KF at hF4 hq2 |-;generalize hKT:w3.heap.size=KT at hT4 hq0 hq1 hq2 |-;clear hKT;have HS4:Hid (SW w w4 K0 K1):=hS4;have HT4:Hid (Bx w4 KT #[.int .i64 k2,.string x2,.string a2,.slice ad2 len2 cap2] 35):=hT4;have HF4:Hid (Bx w4 KF #[.int .i64 0,.int .i64 0] 32):=hF4;obtain⟨i0,i1⟩:=hF4.c2;obtain⟨t0,t1,t2,t3⟩:=hT4.c4;have hkf1:KF≠K0:=by omega
  have hkf2:K0≠KF:=by omega
  have hkf3:KF≠K1:=by omega
  have hkf4:K1≠KF:=by omega
  clear hS4 hT4 hF4;obtain⟨X0,X1,X2,X3,Y0,Y1,Z0,Z1,Z2,Z3,V0,V1⟩:=HS4.out.c;have hd10:K1≠K0:=by have:=HS4.out.h1;omega
  have hd01:K0≠K1:=by omega
  have HR4:Hid (Rd w4 B l q 0):=HR3.out.later HB4.out;have HTP4:Hid (TrP W.heap.size w4 65 (.agg #[.int .i64 k2,.string x2,.string a2,.slice ad2 len2 cap2]) t):=HTP3.out.later HB4.out
  have HV:Hid (rea l fl=(t,q,0,0)):=by
   have:=HWL.out;simp only[List.length_drop]at this;rw[show l.length-(l.length-q)=q by omega]at this;exact this
  have rd1:w4.cell? ⟨B,1,none⟩=some (.int .i64 (q:Int)):=HR4.out.c1;have hKW0:K0<W.heap.size:=by have:=HWB.out;have:=HS4.out.h1;omega
  have hKW1:K1<W.heap.size:=by have:=HWB.out;omega
  have htf:TrP w.heap.size (fill6 w4 K0 K1 (.int .i64 k2) (.string x2) (.string a2) (.slice ad2 len2 cap2) (.int .i64 0) (.int .i64 0)) 65 (.agg #[.int .i64 k2,.string x2,.string a2,.slice ad2 len2 cap2]) t:=TrP.mono (c:=W.heap.size) (Nat.le_trans HS4.out.h0 (Nat.le_of_lt hKW0)) ((((((HTP4.out.set hKW0).set hKW0).set hKW0).set hKW0).set hKW1).set hKW1);have HTF:Hid (TrP w.heap.size (fill6 w4 K0 K1 (.int .i64 k2) (.string x2) (.string a2) (.slice ad2 len2 cap2) (.int .i64 0) (.int .i64 0)) 65 (.agg #[.int .i64 k2,.string x2,.string a2,.slice ad2 len2 cap2]) t):=htf;clear htf HWL;have hB0:K0<B:=by have:=HS4.out.h1;omega
  have nb1:B≠K0:=by omega
  have nb2:K0≠B:=by omega
  have nb3:B≠K1:=by omega
  have nb4:K1≠B:=by omega
  go_wp2;go_region
  all_goals
   go_wp2;have hO:=HS4.out.out (.int .i64 k2) (.string x2) (.string a2) (.slice ad2 len2 cap2) (.int .i64 0) (.int .i64 0);have htf:=HTF.out;change bodyPost _ _ _ _ _ (fill6 w4 K0 K1 (.int .i64 k2) (.string x2) (.string a2) (.slice ad2 len2 cap2) (.int .i64 0) (.int .i64 0)).drew;clear HTF;generalize fill6 w4 K0 K1 (.int .i64 k2) (.string x2) (.string a2) (.slice ad2 len2 cap2) (.int .i64 0) (.int .i64 0)=WF at hO htf |-;obtain⟨o2,o3,o4⟩:=hO;have j0:WF.drew.cell? ⟨K0,0,none⟩=_:=o3.cell 0;have j1:WF.drew.cell? ⟨K0,1,none⟩=_:=o3.cell 1;have j2:WF.drew.cell? ⟨K0,2,none⟩=_:=o3.cell 2;have j3:WF.drew.cell? ⟨K0,3,none⟩=_:=o3.cell 3;have j4:WF.drew.cell? ⟨K1,0,none⟩=_:=o4.cell 0;have j5:WF.drew.cell? ⟨K1,1,none⟩=_:=o4.cell 1;refine bodyPost_ret (v:=.tuple #[.agg #[.int .i64 k2,.string x2,.string a2,.slice ad2 len2 cap2],.int .i64 (q:Int),.agg #[.int .i64 0,.int .i64 0]]) (by simp[results,Tryz.results118,go_sem,j0,j1,j2,j3,j4,j5]) rfl ?_;exact⟨_,by rw[HV.out];rfl,by rw[HV.out];exact htf.later (Below.refl WF.heap.size WF).drew,o2.drew⟩
end Flw
namespace Tre
open Utf Rws Pln Flw
open Go.RowKit
open Blk (Rw RwAt z3)
set_option maxHeartbeats 8000000
def eLn (l:Ln):Bool:=gaps l==[] || (gaps l != l && noth (gaps l))
theorem endsLine_any (l:Ln) (w:World) (hl:l.length<=140737488351232):Calls Tryz.prog 119 #[.string (mk l)] w fun e w'=>e=.returned (.bool (eLn l))/\w=w':=by
 have hg:=gaps_len l;have HW:Hid (Calls Tryz.prog 90 #[.string (mk l)] w fun e w'=>e=.returned (.string (mk (gaps l)))/\w=w'):=withoutBlanks_any l w (by omega);have HE:Hid (Calls Tryz.prog 64 #[.string (mk (gaps l))] w fun e w'=>e=.returned (.bool (noth (gaps l)))/\w=w'):=isEmpty_any _ w (by omega);have HV:Hid (eLn l=(gaps l==[] || (gaps l != l && noth (gaps l)))):=rfl;have e1:((mk (gaps l)).toList==[])=(gaps l==[]):=by rw[ByteArray.toList_eq,mk_data]
 have e2:(mk (gaps l)).toList.isEmpty=(gaps l==[]):=by rw[ByteArray.toList_eq,mk_data];cases gaps l<;>rfl
 have e3:((mk (gaps l)).toList==(mk l).toList)=(gaps l==l):=beq_mk _ _;have e4:((mk (gaps l)).toList != (mk l).toList)=(gaps l != l):=by unfold bne;rw[e3]
 cases h1:(gaps l==[])
 ·rw[h1]at e1 e2 HV;cases h2:(gaps l==l)
  ·have h3:(gaps l != l)=true:=by unfold bne;rw[h2];rfl
   rw[h2]at e3;rw[h3]at e4 HV;clear h1 h2 h3;generalize gaps l=g at *;go_enter Tryz.func119,Tryz.ntmps119;go_wp2_with (first | (go_at_call 90;refine HW.out.mono ?_;rintro e w' ⟨rfl,rfl⟩) | (go_at_call 64;refine HE.out.mono ?_;rintro e w' ⟨rfl,rfl⟩));go_ret;exact⟨by rw[HV.out];rfl,rfl⟩
  ·have h3:(gaps l != l)=false:=by unfold bne;rw[h2];rfl
   rw[h2]at e3;rw[h3]at e4 HV;clear h1 h2 h3 HE;generalize gaps l=g at *;go_enter Tryz.func119,Tryz.ntmps119;go_wp2_with (first | (go_at_call 90;refine HW.out.mono ?_;rintro e w' ⟨rfl,rfl⟩));go_ret;exact⟨by rw[HV.out];rfl,rfl⟩
 ·rw[h1]at e1 e2 HV;clear h1 e3 e4 HE;generalize gaps l=g at *;go_enter Tryz.func119,Tryz.ntmps119;go_wp2_with (first | (go_at_call 90;refine HW.out.mono ?_;rintro e w' ⟨rfl,rfl⟩));go_ret;exact⟨by rw[HV.out];rfl,rfl⟩
def lnM (c z:Int) (l:Ln) (rs:List Rw):Tr × Int × Int :=
 if (rea l false).2.2.1≠0 then ((rea l false).1,((rea l false).2.2.1:Int),z)else if eLn (l.drop (rea l false).2.1)=false then ((rea l false).1,3,z)else ((rea l false).1,stE c rs,stA rs)
def TfRes (r:Tr × Int × Int) (w:World) (e:Ending) (w':World):Prop:=∃ v,e=.returned (.tuple #[v,fV r.2.1 r.2.2])/\TrP w.heap.size w' 65 v r.1/\Below w.heap.size w w'
def TfD (d:Nat) (r:Tr × Int × Int) (w:World) (e:Ending) (w':World):Prop:=∃ v,e=.returned (.tuple #[v,fV r.2.1 r.2.2])/\TrP w.heap.size w' d v r.1/\Below w.heap.size w w'
theorem TfRes.deep {d:Nat} {r:Tr × Int × Int} {w w':World} {e:Ending} (h:TfRes r w e w') (hd:65<=d):TfD d r w e w':=by
 obtain⟨v,h1,h2,h3⟩:=h;exact⟨v,h1,h2.more hd,h3⟩
theorem three_new (w:World) (c0 c1 c2:Array Value) (t0 t1 t2:TypeId) :
  Below w.heap.size w (((w.alloc (.cells c0 t0)).alloc (.cells c1 t1)).alloc (.cells c2 t2))/\Bx (((w.alloc (.cells c0 t0)).alloc (.cells c1 t1)).alloc (.cells c2 t2)) w.heap.size c0 t0 /\
  Bx (((w.alloc (.cells c0 t0)).alloc (.cells c1 t1)).alloc (.cells c2 t2)) (w.heap.size+1) c1 t1/\Bx (((w.alloc (.cells c0 t0)).alloc (.cells c1 t1)).alloc (.cells c2 t2)) (w.heap.size+1+1) c2 t2:=by
 have s1:(w.alloc (.cells c0 t0)).heap.size=w.heap.size+1:=World.size_alloc _ _;have s2:((w.alloc (.cells c0 t0)).alloc (.cells c1 t1)).heap.size=w.heap.size+1+1:=by rw[World.size_alloc,s1]
 have b1:=below_alloc w (.cells c0 t0);have b2:=below_alloc (w.alloc (.cells c0 t0)) (.cells c1 t1);have b3:=below_alloc ((w.alloc (.cells c0 t0)).alloc (.cells c1 t1)) (.cells c2 t2);have n0:=((Bx.new w c0 t0).later b2).later b3;have n1:=(Bx.new (w.alloc (.cells c0 t0)) c1 t1).later b3;have n2:=Bx.new ((w.alloc (.cells c0 t0)).alloc (.cells c1 t1)) c2 t2;rw[s1]at n1;rw[s2]at n2;have a2:=b1.trans (b2.mono b1.size);exact⟨a2.trans (b3.mono a2.size),n0,n1,n2⟩
theorem two_tf (w:World) (c f:Array Value):Below w.heap.size w ((w.alloc (.cells c 35)).alloc (.cells f 32))/\Bx ((w.alloc (.cells c 35)).alloc (.cells f 32)) w.heap.size c 35 /\
  Bx ((w.alloc (.cells c 35)).alloc (.cells f 32)) (w.heap.size+1) f 32:=by
 have a1:=below_alloc w (.cells c 35);have s1:(w.alloc (.cells c 35)).heap.size=w.heap.size+1:=World.size_alloc _ _;have a2:=below_alloc (w.alloc (.cells c 35)) (.cells f 32);have n2:=Bx.new (w.alloc (.cells c 35)) f 32;rw[s1]at n2;exact⟨a1.trans (a2.mono a1.size),(Bx.new w _ _).later a2,n2⟩
theorem lineOf_any (c:Int) (x:Ln) (z:Int) (l:Ln) (a:Option Addr) (len cap:Nat) (rs:List Rw) (w:World) (hl:l.length<=65536) (hT:Tb w) (h:RowsIn w a len cap rs) :
  Calls Tryz.prog 99 #[rV c x z,.string (mk l),.slice a len cap] w fun e w'=>TfRes (lnM c z l rs) w e w':=by
 have N3:Hid (_/\_/\_/\_):=three_new w #[.int .i64 c,.string (mk x),.int .i64 z] zT #[.int .i64 0,.int .i64 0] 52 35 32;have HRD:Hid (∀ w0,Below w.heap.size w w0->Calls Tryz.prog 118 #[.string (mk l),.bool false] w0 fun e w'=>ReaRes l false w0 e w'):=fun w0 b=>read0_any l false hl (hT.later b)
 go_enter Tryz.func99,Tryz.ntmps99;go_wp2_with fail;change Calls _ _ _ (((w.alloc (.cells #[.int .i64 c,.string (mk x),.int .i64 z] 52)).alloc (.cells zT 35)).alloc (.cells #[.int .i64 0,.int .i64 0] 32)) _;generalize ((w.alloc (.cells #[.int .i64 c,.string (mk x),.int .i64 z] 52)).alloc (.cells zT 35)).alloc (.cells #[.int .i64 0,.int .i64 0] 32)=W at N3 |-;obtain⟨K2,hK2⟩:∃ K,K=w.heap.size+1+1:=⟨_,rfl⟩;obtain⟨K1,hK1⟩:∃ K,K=w.heap.size+1:=⟨_,rfl⟩;obtain⟨K0,hK0⟩:∃ K,K=w.heap.size:=⟨_,rfl⟩;rw[<-hK2,<-hK1,<-hK0]at N3;rw[<-hK2,<-hK1,<-hK0];have hwW:w.heap.size<=K0/\K0<K1/\K1<K2:=by omega
 have HN:Hid (Below w.heap.size w W/\Bx W K0 #[.int .i64 c,.string (mk x),.int .i64 z] 52/\Bx W K1 zT 35/\Bx W K2 #[.int .i64 0,.int .i64 0] 32):=by
  have:=N3.out;rw[hK0]at this |-;exact this
 clear N3 hK0 hK1 hK2;refine(HRD.out W HN.out.1).mono ?_;rintro e w3 ⟨v,rfl,ht,hb3⟩;obtain⟨k2,x2,a2,ad2,len2,cap2,rfl⟩:=ht.cells;have HT3:Hid (TrP W.heap.size w3 65 (.agg #[.int .i64 k2,.string x2,.string a2,.slice ad2 len2 cap2]) (rea l false).1):=ht;have HB3:Hid (Below W.heap.size W w3):=hb3;have hK2W:K2<W.heap.size:=HN.out.2.2.2.lt;clear ht hb3 HRD;have HLM:Hid (lnM c z l rs=if (rea l false).2.2.1≠0 then ((rea l false).1,((rea l false).2.2.1:Int),z)else if eLn (l.drop (rea l false).2.1)=false then ((rea l false).1,3,z)else ((rea l false).1,stE c rs,stA rs)):=rfl;have hnl:(rea l false).2.1<=l.length:=by unfold rea;split<;>simp only<;>omega
 generalize (rea l false).1=T at *;generalize (rea l false).2.1=n at *;generalize (rea l false).2.2.1=y at *;generalize (rea l false).2.2.2=zz at *;have N2:Hid (_/\_/\_):=two_tf w3 #[.int .i64 k2,.string x2,.string a2,.slice ad2 len2 cap2] #[.int .i64 (y:Int),.int .i64 (zz:Int)];go_upto_region 3 with fail
 generalize (w3.alloc (.cells #[.int .i64 k2,.string x2,.string a2,.slice ad2 len2 cap2] 35)).alloc (.cells #[.int .i64 (y:Int),.int .i64 (zz:Int)] 32)=w4 at N2 |-;have hK3:W.heap.size<=w3.heap.size:=HB3.out.size;obtain⟨KF,hKF⟩:∃ K,K=w3.heap.size+1:=⟨_,rfl⟩;obtain⟨KT,hKT⟩:∃ K,K=w3.heap.size:=⟨_,rfl⟩;rw[<-hKF,<-hKT]at N2;rw[<-hKF,<-hKT];have G4:Hid (Below W.heap.size W w4):=HB3.out.trans (N2.out.1.mono (by omega))
 have HS4:Hid (Below w.heap.size w w4/\Bx w4 K0 #[.int .i64 c,.string (mk x),.int .i64 z] 52/\Bx w4 K1 zT 35/\Bx w4 K2 #[.int .i64 0,.int .i64 0] 32/\Bx w4 KT #[.int .i64 k2,.string x2,.string a2,.slice ad2 len2 cap2] 35/\Bx w4 KF #[.int .i64 (y:Int),.int .i64 (zz:Int)] 32/\Below w3.heap.size w3 w4) :=
  ⟨HN.out.1.trans (G4.out.mono HN.out.1.size),HN.out.2.1.later G4.out,HN.out.2.2.1.later G4.out,HN.out.2.2.2.later G4.out,N2.out.2.1,N2.out.2.2,(by have h:=N2.out.1;rw[hKT]at h;exact h)⟩
 have hq1:K1<W.heap.size:=by omega
 have nz:K0≠K1/\K0≠K2/\K1≠K0/\K1≠K2/\K2≠K0/\K2≠K1:=by omega
 have ny:KF≠K0/\KF≠K1/\KF≠K2/\KF≠KT/\KT≠K0/\KT≠K1/\KT≠K2/\KT≠KF/\K0≠KF/\K1≠KF/\K2≠KF/\K0≠KT/\K1≠KT/\K2≠KT:=by omega
 obtain⟨o1,o2,o3,o4,o5,o6⟩:=nz;obtain⟨p1,p2,p3,p4,p5,p6,p7,p8,p9,p10,p11,p12,p13,p14⟩:=ny;have hHR:RowsIn w4 a len cap rs:=h.later HS4.out.1;have HRW:Hid (RowsIn w4 a len cap rs):=hHR;have hwKF:w.heap.size<=KF:=by omega
 have HKF:Hid (w3.heap.size<=KF):=by show _<=_;omega
 clear N2 hKF hKT G4 HB3 HN hHR h hK3;by_cases hy:y≠0
 ·have HV:Hid (lnM c z l rs=(T,(y:Int),z)):=HLM.out.trans (if_pos hy);have qy:((y:Int)!=0)=true:=by simpa using hy
  clear HLM;obtain⟨i0,i1⟩:=HS4.out.2.2.2.2.2.1.c2;obtain⟨t0,t1,t2,t3⟩:=HS4.out.2.2.2.2.1.c4;obtain⟨r0,r1,r2⟩:=HS4.out.2.1.c3;have g0:=HS4.out.2.2.2.2.2.1.fz 0;have g1:=HS4.out.2.2.2.2.2.1.fz 1;obtain⟨d0,d1,d2,d3,d4,d5,z0,z1,z2,z3,z4,z5⟩:=c6_of HS4.out.2.2.1 HS4.out.2.2.2.1
  have HS7:Hid (∀ w7,w7=w4.setCell ⟨KF,1,none⟩ (.int .i64 z)->(Below w.heap.size w w7/\Bx w7 K0 #[.int .i64 c,.string (mk x),.int .i64 z] 52/\Bx w7 K1 zT 35/\Bx w7 K2 #[.int .i64 0,.int .i64 0] 32/\Bx w7 KT #[.int .i64 k2,.string x2,.string a2,.slice ad2 len2 cap2] 35/\Bx w7 KF #[.int .i64 (y:Int),.int .i64 z] 32/\Below w3.heap.size w3 w7)):=fun w7 e=>by
   subst e;exact⟨HS4.out.1.setCell (by show _<=KF;omega) _,HS4.out.2.1.other (by omega) _ _,HS4.out.2.2.1.other (by omega) _ _,HS4.out.2.2.2.1.other (by omega) _ _,HS4.out.2.2.2.2.1.other (by omega) _ _,HS4.out.2.2.2.2.2.1.set 1 _,HS4.out.2.2.2.2.2.2.setCell (show w3.heap.size<=KF from HKF.out) _⟩
  go_upto_region 7 with fail
  have HS8:Hid _:=HS7.out _ rfl;clear HS7;generalize w4.setCell ⟨KF,1,none⟩ (.int .i64 z)=w7 at HS8 |-;replace HS8:Hid (Below w.heap.size w w7/\Bx w7 K0 #[.int .i64 c,.string (mk x),.int .i64 z] 52/\Bx w7 K1 zT 35/\Bx w7 K2 #[.int .i64 0,.int .i64 0] 32/\Bx w7 KT #[.int .i64 k2,.string x2,.string a2,.slice ad2 len2 cap2] 35/\Bx w7 KF #[.int .i64 (y:Int),.int .i64 z] 32/\Below w3.heap.size w3 w7):=HS8;clear i0 i1 t0 t1 t2 t3 r0 r1 r2 g0 g1 d0 d1 d2 d3 d4 d5 z0 z1 z2 z3 z4 z5;obtain⟨i0,i1⟩:=HS8.out.2.2.2.2.2.1.c2;obtain⟨t0,t1,t2,t3⟩:=HS8.out.2.2.2.2.1.c4;obtain⟨r0,r1,r2⟩:=HS8.out.2.1.c3;have g0:=HS8.out.2.2.2.2.2.1.fz 0;have g1:=HS8.out.2.2.2.2.2.1.fz 1;obtain⟨d0,d1,d2,d3,d4,d5,z0,z1,z2,z3,z4,z5⟩:=c6_of HS8.out.2.2.1 HS8.out.2.2.2.1;have HF:Hid (_/\_/\_):=fill6_is HS8.out.2.2.1 HS8.out.2.2.2.1 (by omega) HS8.out.1 (by omega) (by omega) (.int .i64 k2) (.string x2) (.string a2) (.slice ad2 len2 cap2) (.int .i64 (y:Int)) (.int .i64 z)
  have HTF:Hid (TrP w.heap.size (fill6 w7 K1 K2 (.int .i64 k2) (.string x2) (.string a2) (.slice ad2 len2 cap2) (.int .i64 (y:Int)) (.int .i64 z)) 65 (.agg #[.int .i64 k2,.string x2,.string a2,.slice ad2 len2 cap2]) T) :=
   TrP.mono (c:=W.heap.size) (by omega) (((((((HT3.out.later HS8.out.2.2.2.2.2.2).set hq1).set hq1).set hq1).set hq1).set hK2W).set hK2W)
  clear HS8 HT3;go_wp2_with fail;go_region
  all_goals
   go_wp2;change bodyPost _ _ _ _ _ (fill6 w7 K1 K2 (.int .i64 k2) (.string x2) (.string a2) (.slice ad2 len2 cap2) (.int .i64 (y:Int)) (.int .i64 z)).drew;generalize fill6 w7 K1 K2 (.int .i64 k2) (.string x2) (.string a2) (.slice ad2 len2 cap2) (.int .i64 (y:Int)) (.int .i64 z)=WF at HF HTF |-;have j0:WF.drew.cell? ⟨K1,0,none⟩=_:=HF.out.2.1.cell 0;have j1:WF.drew.cell? ⟨K1,1,none⟩=_:=HF.out.2.1.cell 1;have j2:WF.drew.cell? ⟨K1,2,none⟩=_:=HF.out.2.1.cell 2;have j3:WF.drew.cell? ⟨K1,3,none⟩=_:=HF.out.2.1.cell 3;have j4:WF.drew.cell? ⟨K2,0,none⟩=_:=HF.out.2.2.cell 0;have j5:WF.drew.cell? ⟨K2,1,none⟩=_:=HF.out.2.2.cell 1;refine bodyPost_ret (v:=.tuple #[.agg #[.int .i64 k2,.string x2,.string a2,.slice ad2 len2 cap2],.agg #[.int .i64 (y:Int),.int .i64 z]]) (by simp[results,Tryz.results99,go_sem,j0,j1,j2,j3,j4,j5]) rfl ?_;exact⟨_,by rw[HV.out],by rw[HV.out];exact HTF.out.later (Below.refl WF.heap.size WF).drew,HF.out.1.drew⟩
 ·have hy0:y=0:=by omega
  subst hy0;have hext:(mk l).extract n l.length=mk (l.drop n):=by rw[mk_ext];congr 1;rw[List.take_of_length_le (by simp)]
  have hsz:=mk_size l;have HEL:Hid (∀ w0,Calls Tryz.prog 119 #[.string (mk (l.drop n))] w0 fun e w'=>e=.returned (.bool (eLn (l.drop n)))/\w0=w'):=fun w0=>endsLine_any _ w0 (by rw[List.length_drop];omega)
  clear hy;rw[show ((0:Nat):Int)=0 from rfl]at HS4;rw[show ((0:Nat):Int)=0 from rfl];cases he:eLn (l.drop n)
  ·have HV:Hid (lnM c z l rs=(T,3,z)):=by rw[HLM.out,if_neg (by simp),he];exact rfl
   rw[he]at HEL;clear HLM he HRW;generalize mk (l.drop n)=dr at *;obtain⟨i0,i1⟩:=HS4.out.2.2.2.2.2.1.c2;obtain⟨t0,t1,t2,t3⟩:=HS4.out.2.2.2.2.1.c4;obtain⟨r0,r1,r2⟩:=HS4.out.2.1.c3;have g0:=HS4.out.2.2.2.2.2.1.fz 0;have g1:=HS4.out.2.2.2.2.2.1.fz 1;obtain⟨d0,d1,d2,d3,d4,d5,z0,z1,z2,z3,z4,z5⟩:=c6_of HS4.out.2.2.1 HS4.out.2.2.2.1;go_wp2_with fail;refine(HEL.out _).mono ?_;rintro e w' ⟨rfl,rfl⟩;go_wp2_with fail;refine(faultOf_any 3 c x z w4).mono ?_;rintro e w5 ⟨rfl,H5⟩;have HS5:Hid (Below w.heap.size w w5/\Bx w5 K0 #[.int .i64 c,.string (mk x),.int .i64 z] 52/\Bx w5 K1 zT 35/\Bx w5 K2 #[.int .i64 0,.int .i64 0] 32/\Bx w5 KT #[.int .i64 k2,.string x2,.string a2,.slice ad2 len2 cap2] 35/\Bx w5 KF #[.int .i64 0,.int .i64 (zz:Int)] 32/\Below w3.heap.size w3 w5):=⟨HS4.out.1.trans (H5.mono HS4.out.1.size),HS4.out.2.1.later H5,HS4.out.2.2.1.later H5,HS4.out.2.2.2.1.later H5,HS4.out.2.2.2.2.1.later H5,HS4.out.2.2.2.2.2.1.later H5,HS4.out.2.2.2.2.2.2.trans (H5.mono HS4.out.2.2.2.2.2.2.size)⟩;clear i0 i1 t0 t1 t2 t3 r0 r1 r2 g0 g1 d0 d1 d2 d3 d4 d5 z0 z1 z2 z3 z4 z5;clear HS4 H5;obtain⟨i0,i1⟩:=HS5.out.2.2.2.2.2.1.c2;obtain⟨t0,t1,t2,t3⟩:=HS5.out.2.2.2.2.1.c4;obtain⟨r0,r1,r2⟩:=HS5.out.2.1.c3;have g0:=HS5.out.2.2.2.2.2.1.fz 0;have g1:=HS5.out.2.2.2.2.2.1.fz 1;obtain⟨d0,d1,d2,d3,d4,d5,z0,z1,z2,z3,z4,z5⟩:=c6_of HS5.out.2.2.1 HS5.out.2.2.2.1
   have HS7:Hid (∀ w7,w7=(w5.setCell ⟨KF,0,none⟩ (.int .i64 3)).setCell ⟨KF,1,none⟩ (.int .i64 z)->(Below w.heap.size w w7/\Bx w7 K0 #[.int .i64 c,.string (mk x),.int .i64 z] 52/\Bx w7 K1 zT 35/\Bx w7 K2 #[.int .i64 0,.int .i64 0] 32/\Bx w7 KT #[.int .i64 k2,.string x2,.string a2,.slice ad2 len2 cap2] 35/\Bx w7 KF #[.int .i64 3,.int .i64 z] 32/\Below w3.heap.size w3 w7)):=fun w7 e=>by
    subst e;exact⟨(HS5.out.1.setCell (by show _<=KF;omega) _).setCell (by show _<=KF;omega) _,(HS5.out.2.1.other (by omega) _ _).other (by omega) _ _,(HS5.out.2.2.1.other (by omega) _ _).other (by omega) _ _,(HS5.out.2.2.2.1.other (by omega) _ _).other (by omega) _ _,(HS5.out.2.2.2.2.1.other (by omega) _ _).other (by omega) _ _,(HS5.out.2.2.2.2.2.1.set 0 _).set 1 _,(HS5.out.2.2.2.2.2.2.setCell (show w3.heap.size<=KF from HKF.out) _).setCell (show w3.heap.size<=KF from HKF.out) _⟩
   go_upto_region 7 with fail
   have HS8:Hid _:=HS7.out _ rfl;clear HS7;generalize (w5.setCell ⟨KF,0,none⟩ (.int .i64 3)).setCell ⟨KF,1,none⟩ (.int .i64 z)=w7 at HS8 |-;replace HS8:Hid (Below w.heap.size w w7/\Bx w7 K0 #[.int .i64 c,.string (mk x),.int .i64 z] 52/\Bx w7 K1 zT 35/\Bx w7 K2 #[.int .i64 0,.int .i64 0] 32/\Bx w7 KT #[.int .i64 k2,.string x2,.string a2,.slice ad2 len2 cap2] 35/\Bx w7 KF #[.int .i64 3,.int .i64 z] 32/\Below w3.heap.size w3 w7):=HS8;clear i0 i1 t0 t1 t2 t3 r0 r1 r2 g0 g1 d0 d1 d2 d3 d4 d5 z0 z1 z2 z3 z4 z5;clear HS5;obtain⟨i0,i1⟩:=HS8.out.2.2.2.2.2.1.c2;obtain⟨t0,t1,t2,t3⟩:=HS8.out.2.2.2.2.1.c4;obtain⟨r0,r1,r2⟩:=HS8.out.2.1.c3;have g0:=HS8.out.2.2.2.2.2.1.fz 0;have g1:=HS8.out.2.2.2.2.2.1.fz 1;obtain⟨d0,d1,d2,d3,d4,d5,z0,z1,z2,z3,z4,z5⟩:=c6_of HS8.out.2.2.1 HS8.out.2.2.2.1;have HF:Hid (_/\_/\_):=fill6_is HS8.out.2.2.1 HS8.out.2.2.2.1 (by omega) HS8.out.1 (by omega) (by omega) (.int .i64 k2) (.string x2) (.string a2) (.slice ad2 len2 cap2) (.int .i64 3) (.int .i64 z)
   have HTF:Hid (TrP w.heap.size (fill6 w7 K1 K2 (.int .i64 k2) (.string x2) (.string a2) (.slice ad2 len2 cap2) (.int .i64 3) (.int .i64 z)) 65 (.agg #[.int .i64 k2,.string x2,.string a2,.slice ad2 len2 cap2]) T) :=
    TrP.mono (c:=W.heap.size) (by omega) (((((((HT3.out.later HS8.out.2.2.2.2.2.2).set hq1).set hq1).set hq1).set hq1).set hK2W).set hK2W)
   clear HS8 HT3;go_wp2_with fail;go_region
   all_goals
    go_wp2;change bodyPost _ _ _ _ _ (fill6 w7 K1 K2 (.int .i64 k2) (.string x2) (.string a2) (.slice ad2 len2 cap2) (.int .i64 3) (.int .i64 z)).drew;generalize fill6 w7 K1 K2 (.int .i64 k2) (.string x2) (.string a2) (.slice ad2 len2 cap2) (.int .i64 3) (.int .i64 z)=WF at HF HTF |-;have j0:WF.drew.cell? ⟨K1,0,none⟩=_:=HF.out.2.1.cell 0;have j1:WF.drew.cell? ⟨K1,1,none⟩=_:=HF.out.2.1.cell 1;have j2:WF.drew.cell? ⟨K1,2,none⟩=_:=HF.out.2.1.cell 2;have j3:WF.drew.cell? ⟨K1,3,none⟩=_:=HF.out.2.1.cell 3;have j4:WF.drew.cell? ⟨K2,0,none⟩=_:=HF.out.2.2.cell 0;have j5:WF.drew.cell? ⟨K2,1,none⟩=_:=HF.out.2.2.cell 1;refine bodyPost_ret (v:=.tuple #[.agg #[.int .i64 k2,.string x2,.string a2,.slice ad2 len2 cap2],.agg #[.int .i64 3,.int .i64 z]]) (by simp[results,Tryz.results99,go_sem,j0,j1,j2,j3,j4,j5]) rfl ?_;exact⟨_,by rw[HV.out],by rw[HV.out];exact HTF.out.later (Below.refl WF.heap.size WF).drew,HF.out.1.drew⟩
  ·have HV:Hid (lnM c z l rs=(T,stE c rs,stA rs)):=by rw[HLM.out,if_neg (by simp),he];exact rfl
   rw[he]at HEL;have HSY:Hid (Calls Tryz.prog 117 #[rV c x z,.slice a len cap] w4 fun e w'=>e=.returned (fV (stE c rs) (stA rs))/\Below w4.heap.size w4 w'):=stray_any c x z a len cap rs w4 HRW.out;clear HLM he HRW;generalize mk (l.drop n)=dr at *;generalize stE c rs=sE at *;generalize stA rs=sA at *;obtain⟨i0,i1⟩:=HS4.out.2.2.2.2.2.1.c2;obtain⟨t0,t1,t2,t3⟩:=HS4.out.2.2.2.2.1.c4;obtain⟨r0,r1,r2⟩:=HS4.out.2.1.c3;have g0:=HS4.out.2.2.2.2.2.1.fz 0;have g1:=HS4.out.2.2.2.2.2.1.fz 1;obtain⟨d0,d1,d2,d3,d4,d5,z0,z1,z2,z3,z4,z5⟩:=c6_of HS4.out.2.2.1 HS4.out.2.2.2.1;go_wp2_with fail;refine(HEL.out _).mono ?_;rintro e w' ⟨rfl,rfl⟩;go_wp2_with fail;refine HSY.out.mono ?_;rintro e w5 ⟨rfl,H5⟩;have HS5:Hid (Below w.heap.size w w5/\Bx w5 K0 #[.int .i64 c,.string (mk x),.int .i64 z] 52/\Bx w5 K1 zT 35/\Bx w5 K2 #[.int .i64 0,.int .i64 0] 32/\Bx w5 KT #[.int .i64 k2,.string x2,.string a2,.slice ad2 len2 cap2] 35/\Bx w5 KF #[.int .i64 0,.int .i64 (zz:Int)] 32/\Below w3.heap.size w3 w5):=⟨HS4.out.1.trans (H5.mono HS4.out.1.size),HS4.out.2.1.later H5,HS4.out.2.2.1.later H5,HS4.out.2.2.2.1.later H5,HS4.out.2.2.2.2.1.later H5,HS4.out.2.2.2.2.2.1.later H5,HS4.out.2.2.2.2.2.2.trans (H5.mono HS4.out.2.2.2.2.2.2.size)⟩;clear i0 i1 t0 t1 t2 t3 r0 r1 r2 g0 g1 d0 d1 d2 d3 d4 d5 z0 z1 z2 z3 z4 z5;clear HS4 H5;obtain⟨i0,i1⟩:=HS5.out.2.2.2.2.2.1.c2;obtain⟨t0,t1,t2,t3⟩:=HS5.out.2.2.2.2.1.c4;obtain⟨r0,r1,r2⟩:=HS5.out.2.1.c3;have g0:=HS5.out.2.2.2.2.2.1.fz 0;have g1:=HS5.out.2.2.2.2.2.1.fz 1;obtain⟨d0,d1,d2,d3,d4,d5,z0,z1,z2,z3,z4,z5⟩:=c6_of HS5.out.2.2.1 HS5.out.2.2.2.1
   have HS7:Hid (∀ w7,w7=(w5.setCell ⟨KF,0,none⟩ (.int .i64 sE)).setCell ⟨KF,1,none⟩ (.int .i64 sA)->(Below w.heap.size w w7/\Bx w7 K0 #[.int .i64 c,.string (mk x),.int .i64 z] 52/\Bx w7 K1 zT 35/\Bx w7 K2 #[.int .i64 0,.int .i64 0] 32/\Bx w7 KT #[.int .i64 k2,.string x2,.string a2,.slice ad2 len2 cap2] 35/\Bx w7 KF #[.int .i64 sE,.int .i64 sA] 32/\Below w3.heap.size w3 w7)):=fun w7 e=>by
    subst e;exact⟨(HS5.out.1.setCell (by show _<=KF;omega) _).setCell (by show _<=KF;omega) _,(HS5.out.2.1.other (by omega) _ _).other (by omega) _ _,(HS5.out.2.2.1.other (by omega) _ _).other (by omega) _ _,(HS5.out.2.2.2.1.other (by omega) _ _).other (by omega) _ _,(HS5.out.2.2.2.2.1.other (by omega) _ _).other (by omega) _ _,(HS5.out.2.2.2.2.2.1.set 0 _).set 1 _,(HS5.out.2.2.2.2.2.2.setCell (show w3.heap.size<=KF from HKF.out) _).setCell (show w3.heap.size<=KF from HKF.out) _⟩
   go_upto_region 7 with fail
   have HS8:Hid _:=HS7.out _ rfl;clear HS7;generalize (w5.setCell ⟨KF,0,none⟩ (.int .i64 sE)).setCell ⟨KF,1,none⟩ (.int .i64 sA)=w7 at HS8 |-;replace HS8:Hid (Below w.heap.size w w7/\Bx w7 K0 #[.int .i64 c,.string (mk x),.int .i64 z] 52/\Bx w7 K1 zT 35/\Bx w7 K2 #[.int .i64 0,.int .i64 0] 32/\Bx w7 KT #[.int .i64 k2,.string x2,.string a2,.slice ad2 len2 cap2] 35/\Bx w7 KF #[.int .i64 sE,.int .i64 sA] 32/\Below w3.heap.size w3 w7):=HS8;clear i0 i1 t0 t1 t2 t3 r0 r1 r2 g0 g1 d0 d1 d2 d3 d4 d5 z0 z1 z2 z3 z4 z5;clear HS5;obtain⟨i0,i1⟩:=HS8.out.2.2.2.2.2.1.c2;obtain⟨t0,t1,t2,t3⟩:=HS8.out.2.2.2.2.1.c4;obtain⟨r0,r1,r2⟩:=HS8.out.2.1.c3;have g0:=HS8.out.2.2.2.2.2.1.fz 0;have g1:=HS8.out.2.2.2.2.2.1.fz 1;obtain⟨d0,d1,d2,d3,d4,d5,z0,z1,z2,z3,z4,z5⟩:=c6_of HS8.out.2.2.1 HS8.out.2.2.2.1;have HF:Hid (_/\_/\_):=fill6_is HS8.out.2.2.1 HS8.out.2.2.2.1 (by omega) HS8.out.1 (by omega) (by omega) (.int .i64 k2) (.string x2) (.string a2) (.slice ad2 len2 cap2) (.int .i64 sE) (.int .i64 sA)
   have HTF:Hid (TrP w.heap.size (fill6 w7 K1 K2 (.int .i64 k2) (.string x2) (.string a2) (.slice ad2 len2 cap2) (.int .i64 sE) (.int .i64 sA)) 65 (.agg #[.int .i64 k2,.string x2,.string a2,.slice ad2 len2 cap2]) T) :=
    TrP.mono (c:=W.heap.size) (by omega) (((((((HT3.out.later HS8.out.2.2.2.2.2.2).set hq1).set hq1).set hq1).set hq1).set hK2W).set hK2W)
   clear HS8 HT3;go_wp2_with fail;go_region
   all_goals
    go_wp2;change bodyPost _ _ _ _ _ (fill6 w7 K1 K2 (.int .i64 k2) (.string x2) (.string a2) (.slice ad2 len2 cap2) (.int .i64 sE) (.int .i64 sA)).drew;generalize fill6 w7 K1 K2 (.int .i64 k2) (.string x2) (.string a2) (.slice ad2 len2 cap2) (.int .i64 sE) (.int .i64 sA)=WF at HF HTF |-;have j0:WF.drew.cell? ⟨K1,0,none⟩=_:=HF.out.2.1.cell 0;have j1:WF.drew.cell? ⟨K1,1,none⟩=_:=HF.out.2.1.cell 1;have j2:WF.drew.cell? ⟨K1,2,none⟩=_:=HF.out.2.1.cell 2;have j3:WF.drew.cell? ⟨K1,3,none⟩=_:=HF.out.2.1.cell 3;have j4:WF.drew.cell? ⟨K2,0,none⟩=_:=HF.out.2.2.cell 0;have j5:WF.drew.cell? ⟨K2,1,none⟩=_:=HF.out.2.2.cell 1;refine bodyPost_ret (v:=.tuple #[.agg #[.int .i64 k2,.string x2,.string a2,.slice ad2 len2 cap2],.agg #[.int .i64 sE,.int .i64 sA]]) (by simp[results,Tryz.results99,go_sem,j0,j1,j2,j3,j4,j5]) rfl ?_;exact⟨_,by rw[HV.out],by rw[HV.out];exact HTF.out.later (Below.refl WF.heap.size WF).drew,HF.out.1.drew⟩
end Tre
end Go.Proofs.YtalijhclfppohaaGreatDoor
