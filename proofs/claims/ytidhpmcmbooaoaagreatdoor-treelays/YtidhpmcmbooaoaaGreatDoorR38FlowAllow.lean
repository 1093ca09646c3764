/- . -/
import Derived.Test.YtidhpmcmbooaoaaGreatDoorR26UtfDec
import Derived.Test.YtidhpmcmbooaoaaGreatDoorR31FlowTree
import Derived.Test.YtidhpmcmbooaoaaGreatDoorR37FlowFine
import Derived.Test.YtidhpmcmbooaoaaGreatDoorR36BlockFold
import Derived.Test.YtidhpmcmbooaoaaGreatDoorR02FlowModel2
import Derived.Test.YtidhpmcmbooaoaaGreatDoorR32FlowItem
set_option linter.unusedSimpArgs false
set_option linter.unusedVariables false
set_option maxRecDepth 100000
namespace Go.Proofs.YtidhpmcmbooaoaaGreatDoor
namespace Flw
open Utf Rws Pln
open Go.RowKit
set_option maxHeartbeats 4000000
def alk (f:Tr->Nat->Option Nat) (map:Bool):Nat->List Tr->Nat->Option Nat
 | _,[],n=>some n
 | i,t::ts,n=>if (map && decide (i % 2=0))=true/\kyl t.kind t.anc=false then none else match f t n with | none=>none | some n'=>alk f map (i+1) ts n'
def alw:Nat->Nat->Tr->Nat->Option Nat
 | 0,_,_,_=>none
 | d+1,deep,t,n =>
  if n+1>4096\/(if isLst t=true then deep+1 else deep)>64\/ral t.kind t.text t.anc t.kids.length=false then none
  else alk (fun k m=>alw d (if isLst t=true then deep+1 else deep) k m) (decide (t.kind=6)) 0 t.kids (n+1)
def bri (B:Nat):Nat->Tr->Prop
 | 0,_=>False
 | d+1,t=>t.text.length<=B/\t.anc.length<=B/\∀ i,i<t.kids.length->bri B d (t.kids.getD i tr0)
theorem bri.mono {B B':Nat} (hB:B<=B'):∀ {d:Nat} {t:Tr},bri B d t->bri B' d t
 | 0,_,h=>h
 | d+1,t,h=>⟨Nat.le_trans h.1 hB,Nat.le_trans h.2.1 hB,fun i hi=>bri.mono hB (h.2.2 i hi)⟩
theorem bri.more {B:Nat}:∀ {d d':Nat} {t:Tr},bri B d t->d<=d'->bri B d' t
 | 0,_,_,h,_=>h.elim
 | d+1,d',t,h,hd=>by
  obtain⟨e,rfl⟩:∃ e,d'=e+1:=⟨d'-1,by omega⟩;exact⟨h.1,h.2.1,fun i hi=>bri.more (h.2.2 i hi) (by omega)⟩
abbrev brief:Nat->Tr->Prop:=bri 65536
structure Jg (W w:World) (L KB n:Nat) (tc:Array Value):Prop where
 j:Bx w L #[.int .i64 (n:Int)] 57
 t:Bx w KB tc 24
 bl:Below W.heap.size W w
 hl:W.heap.size<=L
 hk:L<KB
theorem Jg.fr {W w w1:World} {L KB n m:Nat} {tc:Array Value} (h:Jg W w L KB n tc) (hf:Fr L w w1) (hj:Bx w1 L #[.int .i64 (m:Int)] 57):Jg W w1 L KB m tc :=
 ⟨hj,h.t.fr hf h.hk,h.bl.trans (hf.1.mono h.hl),h.hl,h.hk⟩
theorem Jg.later {W w w1:World} {L KB n:Nat} {tc:Array Value} (h:Jg W w L KB n tc) (hb:Below w.heap.size w w1):Jg W w1 L KB n tc :=
 ⟨h.j.later hb,h.t.later hb,h.bl.trans (hb.mono h.bl.size),h.hl,h.hk⟩
theorem alk_at (f:Tr->Nat->Option Nat) (mp:Bool) (j:Nat) (ks:List Tr) (m:Nat) (h:j<ks.length):alk f mp j (ks.drop j) m=if (mp && decide (j % 2=0))=true/\kyl (ks.getD j tr0).kind (ks.getD j tr0).anc=false then none else match f (ks.getD j tr0) m with | none=>none | some n'=>alk f mp (j+1) (ks.drop (j+1)) n':=by
 rw[List.drop_eq_getElem_cons h,List.getD_eq_getElem?_getD,List.getElem?_eq_getElem h];rfl
theorem TrV.four {w:World} {d:Nat} {c0 c1 c2 c3:Value} {t:Tr} (h:TrV w d (.agg #[c0,c1,c2,c3]) t):∃ (ad:Option Addr) (len cap:Nat),c0=.int .i64 t.kind/\c1=.string (mk t.text)/\c2=.string (mk t.anc)/\c3=.slice ad len cap:=by
 cases d with
 | zero=>exact h.elim
 | succ d =>
  obtain⟨ad,len,cap,e,_⟩:=h;simp only[Value.agg.injEq,Array.mk.injEq,List.cons.injEq,and_true]at e;exact⟨ad,len,cap,e.1,e.2.1,e.2.2.1,e.2.2.2⟩
structure Jk (W w wr:World) (L KB KK n:Nat) (tc kc:Array Value):Prop where
 g:Jg W wr L KB n tc
 f:Fr L w wr
 k:Bx wr KK kc 24
theorem Jk.later {W w w1 w2:World} {L KB KK n:Nat} {tc kc:Array Value} (h:Jk W w w1 L KB KK n tc kc) (hb:Below w1.heap.size w1 w2):Jk W w w2 L KB KK n tc kc :=
 ⟨h.g.later hb,h.f.trans (Fr.of hb h.g.j.lt),h.k.later hb⟩
def AlOk (W:World) (L d dd:Nat) (f:Tr->Nat->Option Nat) (P:Tr->Prop):Prop:=∀ (v:Value) (t:Tr) (w:World) (n:Nat),P t->TrV W d v t->Below W.heap.size W w->n<=4096->Bx w L #[.int .i64 (n:Int)] 57 ->
 Calls Tryz.prog 17 #[.pointer (some ⟨L,0,none⟩),v,.int .i64 (dd:Int)] w fun e w'=>∃ q:Bool,e=.returned (.bool q)/\q=(f t n).isSome/\Fr L w w'/\∀ n',f t n=some n'->n'<=4096/\Bx w' L #[.int .i64 (n':Int)] 57
theorem allows_core (k:Int) (x a:Ln) (ad:Option Addr) (len cap:Nat) (W w:World) (L deep n d:Nat) (ks:List Tr) (hl:len<=9223372036854775807) (hx:x.length<=2147483648) (ha:a.length<=2147483648)
  (HK:Hid (KAt W d ad len ks)) (HBW:Hid (Below W.heap.size W w)) (HTW:Hid (Tb W)) (hd:deep<=64) (hn:n<=4096) (hWL:W.heap.size<=L) (hJ:Bx w L #[.int .i64 (n:Int)] 57)
  (f:Tr->Nat->Option Nat) (dd:Nat) (hdd:dd=if isLst ⟨k,x,a,ks⟩=true then deep+1 else deep) (P:Tr->Prop) (hP:∀ i,i<ks.length->P (ks.getD i tr0))
  (HI:Hid (dd<=64->AlOk W L d dd f P))
  (R:Bool->World->Prop) (hF:Hid (∀ w',(n+1>4096\/dd>64\/ral k x a len=false\/alk f (decide (k=6)) 0 ks (n+1)=none)->Fr L w w'->R false w'))
  (hT:Hid (∀ w' n',n+1<=4096->dd<=64->ral k x a len=true->alk f (decide (k=6)) 0 ks (n+1)=some n'->n'<=4096->Fr L w w'->Bx w' L #[.int .i64 (n':Int)] 57->R true w')) :
  Calls Tryz.prog 17 #[.pointer (some ⟨L,0,none⟩),tv k x a ad len cap,.int .i64 (deep:Int)] w fun e w'=>∃ q:Bool,e=.returned (.bool q)/\R q w':=by
 have hLw:=hJ.lt;have hcl:w.cell? ⟨L,0,none⟩=some (.int .i64 (n:Int)):=hJ.cell 0;have hfr:=hJ.fz 0;have hs1:(w.setCell ⟨L,0,none⟩ (.int .i64 ((n+1:Nat):Int))).heap.size=w.heap.size:=World.size_setCell _ _ _
 have hJ1:Jg W ((w.setCell ⟨L,0,none⟩ (.int .i64 ((n+1:Nat):Int))).alloc (.cells #[.int .i64 k,.string (mk x),.string (mk a),.slice ad len cap] 24)) L w.heap.size (n+1) #[.int .i64 k,.string (mk x),.string (mk a),.slice ad len cap]:=by
  have hb:=below_alloc (w.setCell ⟨L,0,none⟩ (.int .i64 ((n+1:Nat):Int))) (.cells #[.int .i64 k,.string (mk x),.string (mk a),.slice ad len cap] 24);have hx2:=Bx.new (w.setCell ⟨L,0,none⟩ (.int .i64 ((n+1:Nat):Int))) #[.int .i64 k,.string (mk x),.string (mk a),.slice ad len cap] 24;rw[hs1]at hx2;exact⟨(hJ.set 0 (.int .i64 ((n+1:Nat):Int))).later hb,hx2,(HBW.out.setCell (p:=⟨L,0,none⟩) hWL _).trans (hb.mono (by rw[hs1];exact HBW.out.size)),hWL,hLw⟩
 have hF1:Fr L w ((w.setCell ⟨L,0,none⟩ (.int .i64 ((n+1:Nat):Int))).alloc (.cells #[.int .i64 k,.string (mk x),.string (mk a),.slice ad len cap] 24)):=(Fr.refl.set 0 _).trans (Fr.of (below_alloc _ _) (by rw[hs1];exact hLw));go_enter Tryz.func17,Tryz.ntmps17;go_wp2_with fail;rw[show ((n:Int)+1)=((n+1:Nat):Int) by omega];generalize ((w.setCell ⟨L,0,none⟩ (.int .i64 ((n+1:Nat):Int))).alloc (.cells #[.int .i64 k,.string (mk x),.string (mk a),.slice ad len cap] 24))=w1 at hJ1 hF1 |-;generalize hKB:w.heap.size=KB at hJ1 |-
 have HIL:Hid (Calls Tryz.prog 26 #[.agg #[.int .i64 k,.string (mk x),.string (mk a),.slice ad len cap]] w1 fun e w'=>e=.returned (.bool (isLst ⟨k,x,a,ks⟩))/\Hid (Jg W w' L KB (n+1) #[.int .i64 k,.string (mk x),.string (mk a),.slice ad len cap]/\Fr L w w')) :=
  (isList_any k (mk x) (mk a) ad len cap w1).mono (fun e w' h=>⟨h.1,hJ1.later h.2,hF1.trans (Fr.of h.2 hJ1.j.lt)⟩)
 clear hKB hJ1 hF1 hcl hfr hs1 hJ HBW hLw;refine HIL.out.mono ?_;rintro e w2 ⟨rfl,H2⟩;clear HIL;cases hLL:isLst ⟨k,x,a,ks⟩
 case' false =>
  rw[hLL,if_neg (by decide)]at hdd;subst hdd;go_upto_region 4 with fail
 case' true =>
  rw[hLL,if_pos rfl]at hdd;go_upto_region 4 with fail
  rw[show ((deep:Int)+1)=(dd:Int) by omega];clear hdd
 all_goals
  by_cases h1:4096<n+1
  ·have g0:w2.cell? ⟨L,0,none⟩=some (.int .i64 ((n+1:Nat):Int)):=H2.out.1.j.cell 0;have h1':(4096:Int)<(n:Int)+1:=by omega
   go_wp2;go_ret
   first | exact⟨false,rfl,hF.out _ (.inl (by omega)) H2.out.2⟩ | exact .inl ⟨rfl,hF.out _ (.inl (by omega)) H2.out.2⟩
  have g0:w2.cell? ⟨L,0,none⟩=some (.int .i64 ((n+1:Nat):Int)):=H2.out.1.j.cell 0;have h1': ¬ (4096:Int)<(n:Int)+1:=by omega
  by_cases h2:64<dd
  ·have h2':(64:Int)<(dd:Int):=by omega
   first
   | (exfalso;omega)
   | (go_wp2;go_ret;first | exact⟨false,rfl,hF.out _ (.inr (.inl (by omega))) H2.out.2⟩ | exact .inl ⟨rfl,hF.out _ (.inr (.inl (by omega))) H2.out.2⟩)
  have h2': ¬ (64:Int)<(dd:Int):=by omega
  obtain⟨g1,g2,g3,g4⟩:=H2.out.1.t.c4
  have HRA:Hid (Calls Tryz.prog 27 #[.agg #[.int .i64 k,.string (mk x),.string (mk a),.slice ad len cap]] w2 fun e w'=>e=.returned (.bool (ral k x a len))/\Hid (Jg W w' L KB (n+1) #[.int .i64 k,.string (mk x),.string (mk a),.slice ad len cap]/\Fr L w w')) :=
   (rightAlone_any hx ha hl (HTW.out.later H2.out.1.bl)).mono (fun e w' h=>⟨h.1,H2.out.1.later h.2,H2.out.2.trans (Fr.of h.2 H2.out.1.j.lt)⟩)
  obtain⟨mp,HM⟩:∃ mp,Hid (mp=decide (k=6)):=⟨_,rfl⟩;rw[<-HM.out]at hF hT;cases hra:ral k x a len
  ·rw[hra]at HRA;go_wp2_with (go_at_call 27;refine HRA.out.mono ?_;rintro e w3 ⟨rfl,H3⟩);go_ret
   first | exact⟨false,rfl,hF.out _ (.inr (.inr (.inl hra))) H3.out.2⟩ | exact .inl ⟨rfl,hF.out _ (.inr (.inr (.inl hra))) H3.out.2⟩
  ·rw[hra]at HRA;go_wp2_with (go_at_call 27;refine HRA.out.mono ?_;rintro e w3 ⟨rfl,H3⟩;have e3:w3.cell? ⟨KB,3,none⟩=some (.slice ad len cap):=H3.out.1.t.cell 3);have HA0:Hid (alk f mp 0 ks (n+1)=alk f mp 0 (ks.drop 0) (n+1)):=rfl;clear HRA g0 g1 g2 g3 g4 H2 e3
   go_loopw [37] (fun i wr=>∃ j m:Nat,j<=len/\i=.int .i64 j/\m<=4096/\Hid (Jg W wr L KB m #[.int .i64 k,.string (mk x),.string (mk a),.slice ad len cap]/\Fr L w wr)/\Hid (alk f mp 0 ks (n+1)=alk f mp j (ks.drop j) m)) (fun i _=>len-(intOf i).toNat)
   case atStart=>exact⟨0,n+1,Nat.zero_le _,rfl,by omega,H3,HA0⟩
   case round =>
    obtain⟨j,m,hj,rfl,hm,HJ,HA⟩:=hrel;clear H3 HA0;by_cases hlt:j<len
    ·have hlk:j<ks.length:=by have:=HK.out.1;omega
     obtain⟨b,off,rfl,hb,hcell⟩:=HK.out.2 (by omega);obtain⟨c0,c1,c2,c3,x0,x1,x2,x3,hx'⟩:=hcell j hlt;replace x0:=(HJ.out.1.bl.cell (p:=⟨b,off+j*4,none⟩) hb).trans x0;replace x1:=(HJ.out.1.bl.cell (p:=⟨b,off+j*4+1,none⟩) hb).trans x1;replace x2:=(HJ.out.1.bl.cell (p:=⟨b,off+j*4+2,none⟩) hb).trans x2;replace x3:=(HJ.out.1.bl.cell (p:=⟨b,off+j*4+3,none⟩) hb).trans x3;have HV:Hid (TrV W d (.agg #[c0,c1,c2,c3]) (ks.getD j tr0)):=hx';obtain⟨ad',len',cap',rfl,rfl,rfl,rfl⟩:=hx'.four;clear hcell hx';have HPk:Hid (P (ks.getD j tr0)):=hP j hlk;have HAT:Hid (alk f mp 0 ks (n+1)=if (mp && decide (j % 2=0))=true/\kyl (ks.getD j tr0).kind (ks.getD j tr0).anc=false then none else match f (ks.getD j tr0) m with | none=>none | some n'=>alk f mp (j+1) (ks.drop (j+1)) n'):=HA.out.trans (alk_at f mp j ks m hlk);clear HA;generalize ks.getD j tr0=t' at x0 x1 x2 x3 HV HPk HAT;obtain⟨k',y',a',ks'⟩:=t';simp only at x0 x1 x2 x3 HV HAT;have H4:Hid (Jk W w (wr.alloc (.cells #[.int .i64 k',.string (mk y'),.string (mk a'),.slice ad' len' cap'] 24)) L KB wr.heap.size m #[.int .i64 k,.string (mk x),.string (mk a),.slice (some ⟨b,off,none⟩) len cap] #[.int .i64 k',.string (mk y'),.string (mk a'),.slice ad' len' cap']):=⟨HJ.out.1.later (below_alloc _ _),HJ.out.2.trans (Fr.of (below_alloc _ _) HJ.out.1.j.lt),Bx.new _ _ _⟩;go_upto_region 9 with fail
     generalize wr.alloc (.cells #[.int .i64 k',.string (mk y'),.string (mk a'),.slice ad' len' cap'] 24)=w4 at H4 |-;generalize wr.heap.size=KK at H4 |-;obtain⟨q1,HQ1⟩:∃ q1,Hid (q1=(mp && decide (j % 2=0))):=⟨_,rfl⟩;obtain⟨q2,HQ2⟩:∃ q2,Hid (q2=kyl k' a'):=⟨_,rfl⟩;rw[<-HQ1.out,<-HQ2.out]at HAT;have HKP:Hid (∀ w',Hid (Jk W w w' L KB KK m #[.int .i64 k,.string (mk x),.string (mk a),.slice (some ⟨b,off,none⟩) len cap] #[.int .i64 k',.string (mk y'),.string (mk a'),.slice ad' len' cap'])->Calls Tryz.prog 28 #[.agg #[.int .i64 k,.string (mk x),.string (mk a),.slice (some ⟨b,off,none⟩) len cap],.int .i64 (j:Int)] w' fun e w''=>e=.returned (.bool q1)/\Hid (Jk W w w'' L KB KK m #[.int .i64 k,.string (mk x),.string (mk a),.slice (some ⟨b,off,none⟩) len cap] #[.int .i64 k',.string (mk y'),.string (mk a'),.slice ad' len' cap'])):=fun w' h=>(isKeyPlace_any j (by omega)).mono (fun e w'' g=>⟨by rw[g.1,HQ1.out,HM.out],h.out.later g.2⟩)
     have HKY:Hid (∀ w',Hid (Jk W w w' L KB KK m #[.int .i64 k,.string (mk x),.string (mk a),.slice (some ⟨b,off,none⟩) len cap] #[.int .i64 k',.string (mk y'),.string (mk a'),.slice ad' len' cap'])->Calls Tryz.prog 29 #[.agg #[.int .i64 k',.string (mk y'),.string (mk a'),.slice ad' len' cap']] w' fun e w''=>e=.returned (.bool q2)/\Hid (Jk W w w'' L KB KK m #[.int .i64 k,.string (mk x),.string (mk a),.slice (some ⟨b,off,none⟩) len cap] #[.int .i64 k',.string (mk y'),.string (mk a'),.slice ad' len' cap'])):=fun w' h=>isKey_any.mono (fun e w'' g=>⟨by rw[g.1,HQ2.out],h.out.later g.2⟩)
     have HAL:Hid (∀ w',Hid (Jk W w w' L KB KK m #[.int .i64 k,.string (mk x),.string (mk a),.slice (some ⟨b,off,none⟩) len cap] #[.int .i64 k',.string (mk y'),.string (mk a'),.slice ad' len' cap'])->Calls Tryz.prog 17 #[.pointer (some ⟨L,0,none⟩),.agg #[.int .i64 k',.string (mk y'),.string (mk a'),.slice ad' len' cap'],.int .i64 (dd:Int)] w' fun e w''=>∃ q:Bool,e=.returned (.bool q)/\Hid (q=(f ⟨k',y',a',ks'⟩ m).isSome/\Fr L w w''/\∀ n',f ⟨k',y',a',ks'⟩ m=some n'->n'<=4096/\Jg W w'' L KB n' #[.int .i64 k,.string (mk x),.string (mk a),.slice (some ⟨b,off,none⟩) len cap])) :=
      fun w' h=>(HI.out (by omega) _ _ _ m HPk.out HV.out h.out.g.bl hm h.out.g.j).mono (fun e w'' ⟨q,g1,g2,g3,g4⟩=>⟨q,g1,g2,h.out.f.trans g3,fun n' hn'=>⟨(g4 n' hn').1,h.out.g.fr g3 (g4 n' hn').2⟩⟩)
     obtain⟨u0,u1,u2,u3⟩:=H4.out.g.t.c4;clear HQ1 HQ2 HV HPk HJ x0 x1 x2 x3 HI;cases q1
     ·go_wp2_with (first | (go_at_call 28;refine(HKP.out _ H4).mono ?_;rintro e w5 ⟨rfl,H5⟩;have v0:w5.cell? ⟨KK,0,none⟩=some (.int .i64 k'):=H5.out.k.cell 0;have v1:w5.cell? ⟨KK,1,none⟩=some (.string (mk y')):=H5.out.k.cell 1;have v2:w5.cell? ⟨KK,2,none⟩=some (.string (mk a')):=H5.out.k.cell 2;have v3:w5.cell? ⟨KK,3,none⟩=some (.slice ad' len' cap'):=H5.out.k.cell 3) | (go_at_call 17;refine(HAL.out _ H5).mono ?_;rintro e w7 ⟨q,rfl,H7⟩;cases q))
      ·have HN:f ⟨k',y',a',ks'⟩ m=none:=by
        have:=H7.out.1
        cases hf:f ⟨k',y',a',ks'⟩ m with
        | none=>rfl
        | some v=>rw[hf]at this;cases this
       have HE:alk f mp 0 ks (n+1)=none:=by rw[HAT.out,if_neg (fun h=>Bool.noConfusion h.1),HN]
       go_ret
       first | exact⟨false,rfl,hF.out _ (.inr (.inr (.inr (HE)))) H7.out.2.1⟩ | exact .inl ⟨rfl,hF.out _ (.inr (.inr (.inr (HE)))) H7.out.2.1⟩
      ·obtain⟨n',HN⟩:∃ n',Hid (f ⟨k',y',a',ks'⟩ m=some n'):=by
        have:=H7.out.1
        cases hf:f ⟨k',y',a',ks'⟩ m with
        | none=>rw[hf]at this;cases this
        | some v=>exact⟨v,rfl⟩
       have HE:Hid (alk f mp 0 ks (n+1)=alk f mp (j+1) (ks.drop (j+1)) n'):=by show _=_;rw[HAT.out,if_neg (fun h=>Bool.noConfusion h.1),HN.out]
       go_roundw
       case rel=>exact⟨j+1,n',by omega,by go_num,(H7.out.2.2 n' HN.out).1,⟨(H7.out.2.2 n' HN.out).2,H7.out.2.1⟩,HE⟩
       case measure=>simp[intOf];omega
     ·cases q2
      ·go_wp2_with (first | (go_at_call 28;refine(HKP.out _ H4).mono ?_;rintro e w5 ⟨rfl,H5⟩;have v0:w5.cell? ⟨KK,0,none⟩=some (.int .i64 k'):=H5.out.k.cell 0;have v1:w5.cell? ⟨KK,1,none⟩=some (.string (mk y')):=H5.out.k.cell 1;have v2:w5.cell? ⟨KK,2,none⟩=some (.string (mk a')):=H5.out.k.cell 2;have v3:w5.cell? ⟨KK,3,none⟩=some (.slice ad' len' cap'):=H5.out.k.cell 3) | (go_at_call 29;refine(HKY.out _ H5).mono ?_;rintro e w6 ⟨rfl,H6⟩;have z0:w6.cell? ⟨KK,0,none⟩=some (.int .i64 k'):=H6.out.k.cell 0;have z1:w6.cell? ⟨KK,1,none⟩=some (.string (mk y')):=H6.out.k.cell 1;have z2:w6.cell? ⟨KK,2,none⟩=some (.string (mk a')):=H6.out.k.cell 2;have z3:w6.cell? ⟨KK,3,none⟩=some (.slice ad' len' cap'):=H6.out.k.cell 3));have HE:alk f mp 0 ks (n+1)=none:=HAT.out.trans (if_pos (by simp));go_ret
       first | exact⟨false,rfl,hF.out _ (.inr (.inr (.inr (HE)))) H6.out.f⟩ | exact .inl ⟨rfl,hF.out _ (.inr (.inr (.inr (HE)))) H6.out.f⟩
      ·go_wp2_with (first | (go_at_call 28;refine(HKP.out _ H4).mono ?_;rintro e w5 ⟨rfl,H5⟩;have v0:w5.cell? ⟨KK,0,none⟩=some (.int .i64 k'):=H5.out.k.cell 0;have v1:w5.cell? ⟨KK,1,none⟩=some (.string (mk y')):=H5.out.k.cell 1;have v2:w5.cell? ⟨KK,2,none⟩=some (.string (mk a')):=H5.out.k.cell 2;have v3:w5.cell? ⟨KK,3,none⟩=some (.slice ad' len' cap'):=H5.out.k.cell 3) | (go_at_call 29;refine(HKY.out _ H5).mono ?_;rintro e w6 ⟨rfl,H6⟩;have z0:w6.cell? ⟨KK,0,none⟩=some (.int .i64 k'):=H6.out.k.cell 0;have z1:w6.cell? ⟨KK,1,none⟩=some (.string (mk y')):=H6.out.k.cell 1;have z2:w6.cell? ⟨KK,2,none⟩=some (.string (mk a')):=H6.out.k.cell 2;have z3:w6.cell? ⟨KK,3,none⟩=some (.slice ad' len' cap'):=H6.out.k.cell 3) | (go_at_call 17;refine(HAL.out _ H6).mono ?_;rintro e w7 ⟨q,rfl,H7⟩;cases q))
       ·have HN:f ⟨k',y',a',ks'⟩ m=none:=by
         have:=H7.out.1
         cases hf:f ⟨k',y',a',ks'⟩ m with
         | none=>rfl
         | some v=>rw[hf]at this;cases this
        have HE:alk f mp 0 ks (n+1)=none:=by rw[HAT.out,if_neg (fun h=>Bool.noConfusion h.2),HN]
        go_ret
        first | exact⟨false,rfl,hF.out _ (.inr (.inr (.inr (HE)))) H7.out.2.1⟩ | exact .inl ⟨rfl,hF.out _ (.inr (.inr (.inr (HE)))) H7.out.2.1⟩
       ·obtain⟨n',HN⟩:∃ n',Hid (f ⟨k',y',a',ks'⟩ m=some n'):=by
         have:=H7.out.1
         cases hf:f ⟨k',y',a',ks'⟩ m with
         | none=>rw[hf]at this;cases this
         | some v=>exact⟨v,rfl⟩
        have HE:Hid (alk f mp 0 ks (n+1)=alk f mp (j+1) (ks.drop (j+1)) n'):=by show _=_;rw[HAT.out,if_neg (fun h=>Bool.noConfusion h.2),HN.out]
        go_roundw
        case rel=>exact⟨j+1,n',by omega,by go_num,(H7.out.2.2 n' HN.out).1,⟨(H7.out.2.2 n' HN.out).2,H7.out.2.1⟩,HE⟩
        case measure=>simp[intOf];omega
    ·have HLE:Hid (len=ks.length):=HK.out.1;have e:j=len:=by omega
     subst e;have HE:Hid (alk f mp 0 ks (n+1)=some m):=by show _=_;rw[HA.out,HLE.out,List.drop_length];rfl
     go_wp2;go_ret;have G:R true wr:=hT.out wr m (by omega) (by omega) (by first | rfl | exact hra) HE.out hm HJ.out.2 HJ.out.1.j
     first | exact⟨true,rfl,G⟩ | exact .inr ⟨rfl,G⟩
theorem allows_any:∀ (d:Nat) (v:Value) (t:Tr) (W w:World) (L deep n:Nat),bri 2147483648 d t->TrV W d v t->Below W.heap.size W w->Tb W->deep<=64->n<=4096->W.heap.size<=L->Bx w L #[.int .i64 (n:Int)] 57 ->
  Calls Tryz.prog 17 #[.pointer (some ⟨L,0,none⟩),v,.int .i64 (deep:Int)] w fun e w'=>∃ q:Bool,e=.returned (.bool q)/\q=(alw d deep t n).isSome/\Fr L w w'/\∀ n',alw d deep t n=some n'->n'<=4096/\Bx w' L #[.int .i64 (n':Int)] 57
 | 0,v,t,W,w,L,deep,n,hb,h,_,_,_,_,_,_=>h.elim
 | d+1,v,t,W,w,L,deep,n,hbr,h,hb,hT,hd,hn,hWL,hJ=>by
  obtain⟨ad,len,cap,rfl,hl,hcp,hm,hz,hk⟩:=h;obtain⟨k,x,a,ks⟩:=t;simp only at hl hz hk hbr;obtain⟨b1,b2,b3⟩:=hbr;have m1:maxLen=9223372036854775807:=rfl
  refine allows_core k x a ad len cap W w L deep n d ks (by omega) b1 b2 ⟨hl,hk⟩ hb hT hd hn hWL hJ (fun k' m=>alw d (if isLst ⟨k,x,a,ks⟩=true then deep+1 else deep) k' m) _ rfl (bri 2147483648 d) b3
   (fun hdd v t w n hp ht hb hn hj=>allows_any d v t W w L _ n hp ht hb hT hdd hn hWL hj)
   (fun q w'=>q=(alw (d+1) deep ⟨k,x,a,ks⟩ n).isSome/\Fr L w w'/\∀ n',alw (d+1) deep ⟨k,x,a,ks⟩ n=some n'->n'<=4096/\Bx w' L #[.int .i64 (n':Int)] 57) ?_ ?_
  ·intro w' hc hf
   have e:alw (d+1) deep ⟨k,x,a,ks⟩ n=none:=by
    unfold alw;rw[<-hl];rcases hc with hc | hc | hc | hc
    ·exact if_pos (.inl hc)
    ·exact if_pos (.inr (.inl hc))
    ·exact if_pos (.inr (.inr hc))
    ·by_cases hq:n+1>4096\/(if isLst ⟨k,x,a,ks⟩=true then deep+1 else deep)>64\/ral k x a len=false
     ·exact if_pos hq
     ·exact(if_neg hq).trans hc
   rw[e];exact⟨rfl,hf,fun n' h=>nomatch h⟩
  ·intro w' n' h1 h2 h3 h4 h5 hf hj
   have e:alw (d+1) deep ⟨k,x,a,ks⟩ n=some n':=by
    unfold alw;rw[<-hl,if_neg (by rw[h3];intro h;rcases h with h | h | h<;>first | omega | exact Bool.noConfusion h)];exact h4
   rw[e];exact⟨rfl,hf,fun m hm=>by cases hm;exact⟨h5,hj⟩⟩
end Flw
namespace Flw
open Utf Rws Pln
open Go.RowKit
set_option maxHeartbeats 4000000
def rgh (d:Nat) (t:Tr):Bool:=(alw d 0 t 0).isSome
theorem TrV.open4 {w:World} {d:Nat} {v:Value} {t:Tr} (h:TrV w d v t):∃ (ad:Option Addr) (len cap:Nat),v=tv t.kind t.text t.anc ad len cap:=by
 cases d with
 | zero=>exact h.elim
 | succ d =>
  obtain⟨ad,len,cap,e,_⟩:=h;exact⟨ad,len,cap,e⟩
theorem right_big {d:Nat} {v:Value} {t:Tr} {w:World} (hb:bri 2147483648 d t) (h:TrV w d v t) (hT:Tb w):Calls Tryz.prog 11 #[v] w fun e w'=>e=.returned (.bool (rgh d t))/\Below w.heap.size w w':=by
 obtain⟨ad,len,cap,hv⟩:=h.open4
 have HC:Hid (∀ c,Calls Tryz.prog 17 #[.pointer (some ⟨w.heap.size+1,0,none⟩),v,.int .i64 0] ((w.alloc (.cells c 24)).alloc (.cells #[.int .i64 0] 57)) fun e w'=>e=.returned (.bool (rgh d t))/\Hid (Below w.heap.size w w')):=fun c=>by
  have b1:=below_alloc w (.cells c 24);have s1:(w.alloc (.cells c 24)).heap.size=w.heap.size+1:=World.size_alloc _ _;have b2:=below_alloc (w.alloc (.cells c 24)) (.cells #[.int .i64 0] 57);have b3:=b1.trans (b2.mono (by omega));have n1:=Bx.new (w.alloc (.cells c 24)) #[.int .i64 0] 57;rw[s1]at n1;exact(allows_any d v t w _ (w.heap.size+1) 0 0 hb h b3 hT (by omega) (by omega) (by omega) n1).mono (fun e w' ⟨q,h1,h2,h3,h4⟩=>⟨by rw[h1,h2];rfl,b3.trans (h3.1.mono (by omega))⟩)
 generalize rgh d t=q at HC |-;clear hb h hT;subst hv;generalize t.kind=k at *;generalize t.text=x at *;generalize t.anc=a at *;go_enter Tryz.func11,Tryz.ntmps11;go_wp2_with (go_at_call 17;refine(HC.out _).mono ?_;rintro e w1 ⟨rfl,H1⟩);go_ret;exact⟨rfl,H1.out⟩
theorem right_any {d:Nat} {v:Value} {t:Tr} {w:World} (hb:brief d t) (h:TrV w d v t) (hT:Tb w):Calls Tryz.prog 11 #[v] w fun e w'=>e=.returned (.bool (rgh d t))/\Below w.heap.size w w':=right_big (bri.mono (by decide) hb) h hT
end Flw
namespace Tre
open Utf Rws Pln Flw
open Go.RowKit
open Blk (Rw RwAt z3 lo rws joinW trm fld headO hdV)
theorem itR_len {x:Ln} (h:isIt x=true):(itR x).length<x.length:=by
 unfold itR;rw[if_pos h];have h1:=gaps_len (x.drop 1);rw[List.length_drop]at h1
 cases x with
 | nil=>exact absurd h (by decide)
 | cons b r=>simp only[List.length_cons]at *;omega
theorem itN_le (x:Ln):itN x<=x.length:=by
 unfold itN;split<;>omega
theorem enR_len (x:Ln):(enR x).length<=x.length:=by
 unfold enR;split
 ·have h1:=gaps_len ((ckR x).drop 1);have h2:=ckR_len x;rw[List.length_drop]at h1;omega
 ·exact Nat.zero_le _
theorem cpr_len:∀ (n:Nat) (p:Pp) (l:Ln),(cpr n p l).2.length<=l.length
 | 0,p,l=>gaps_len l
 | n+1,p,l=>by
  unfold cpr;split
  ·exact gaps_len l
  ·have h1:=cpr_len n (wth p (wrd (gaps l))) (beh (gaps l));have h2:=beh_le (gaps l);have h3:=gaps_len l;omega
theorem CP_len (p:Pp) (l:Ln):(CP p l).2.length<=l.length:=cpr_len _ p l
theorem wth_anc (p:Pp) (l:Ln):(wth p l).anc.length<=p.anc.length+l.length:=by
 unfold wth;split
 ·split
  ·show (l.drop 1).length<=_;rw[List.length_drop];omega
  ·omega
 ·split<;>exact Nat.le_add_right _ _
theorem cpr_anc:∀ (n:Nat) (p:Pp) (l:Ln),(cpr n p l).1.anc.length<=p.anc.length+l.length
 | 0,p,l=>Nat.le_add_right _ _
 | n+1,p,l=>by
  unfold cpr;split
  ·exact Nat.le_add_right _ _
  ·have h1:=cpr_anc n (wth p (wrd (gaps l))) (beh (gaps l))
   have h2:(beh (gaps l)).length+(wrd (gaps l)).length<=(gaps l).length:=by
    unfold beh;rw[List.length_drop];have:=wrd_le (gaps l);omega
   have h3:=gaps_len l;have h4:=wth_anc p (wrd (gaps l));omega
theorem CP_anc (l:Ln):(CP ⟨[],0⟩ l).1.anc.length<=l.length:=by
 have h:(CP ⟨[],0⟩ l).1.anc.length<=0+l.length:=cpr_anc (mu ⟨[],0⟩+1) ⟨[],0⟩ l;omega
theorem mvd_bd (c:Int) (n:Nat) (h: -9223372036854775808<=c) (h2:c<=9223372036854775807): -9223372036854775808<=mvd c n/\mvd c n<=9223372036854775807:=by
 unfold mvd;split<;>omega
theorem dpn_le (rs:List Rw) (c:Int):dpn rs c<=rs.length:=by
 unfold dpn;exact(List.takeWhile_prefix _).length_le
def BkOk (rs:List Rw):Prop:=∀ us,us <:+: rs->∀ c ls,lo none (rws us c)=.inl ls->(joinW 10 (trm ls)).length<=1000000000/\(fld (trm ls)).length<=1000000000
theorem BkOk.sub {rs us:List Rw} (h:BkOk rs) (hs:us <:+: rs):BkOk us:=fun vs hv=>h vs (hv.trans hs)
structure Good (rs:List Rw):Prop where
 len:rs.length<=1048576
 txt:∀ r∈rs,r.2.1.length<=65536
 col:∀ r∈rs,-9223372036854775808<=r.1/\r.1<=9223372036854775807
 bk:BkOk rs
theorem Good.sub {rs us:List Rw} (h:Good rs) (hs:us <:+: rs):Good us :=
 ⟨Nat.le_trans hs.length_le h.len,fun r hr=>h.txt r (hs.subset hr),fun r hr=>h.col r (hs.subset hr),h.bk.sub hs⟩
theorem msr_sub {rs us:List Rw} (hs:us <:+: rs):msr us<=msr rs:=by
 obtain⟨A,B,rfl⟩:=hs;rw[msr_app,msr_app];omega
theorem cnt_suffix (rs:List Rw):cnt rs <:+ rs:=by
 unfold cnt;exact List.dropWhile_suffix _
theorem hds_suffix (dp:Bool):∀ (n:Nat) (c:Int) (rs:List Rw),(hds dp n c rs).2.1 <:+ rs
 | 0,_,rs=>List.nil_suffix
 | n+1,c,rs=>by
  unfold hds;have h:=cnt_suffix rs
  cases hc:cnt rs with
  | nil=>exact List.nil_suffix
  | cons r rest =>
   rw[hc]at h;dsimp only;split
   ·exact List.nil_suffix
   ·split
    ·exact h
    ·exact((hds_suffix dp n r.1 rest).trans (List.suffix_cons r rest)).trans h
end Tre
namespace Tre
open Utf Rws Pln Flw
open Go.RowKit
set_option maxHeartbeats 2000000
theorem two_new (w:World) (c0 c1:Array Value) (t0 t1:TypeId) :
  Below w.heap.size w ((w.alloc (.cells c0 t0)).alloc (.cells c1 t1))/\Bx ((w.alloc (.cells c0 t0)).alloc (.cells c1 t1)) w.heap.size c0 t0 /\
  Bx ((w.alloc (.cells c0 t0)).alloc (.cells c1 t1)) (w.heap.size+1) c1 t1:=by
 have s1:(w.alloc (.cells c0 t0)).heap.size=w.heap.size+1:=World.size_alloc _ _;have b1:=below_alloc w (.cells c0 t0);have b2:=below_alloc (w.alloc (.cells c0 t0)) (.cells c1 t1);have n1:=Bx.new (w.alloc (.cells c0 t0)) c1 t1;rw[s1]at n1;exact⟨b1.trans (b2.mono b1.size),(Bx.new w c0 t0).later b2,n1⟩
variable {w:World}
theorem en_bd (l:Ln):0<=(enT l).kind/\(enT l).kind<=4/\(enT l).text.length<=l.length:=by
 unfold enT ckT;have h1:=rd_olen l;have h2:=knd_bd (cutT l false);have h3:=cutT_len l false;have h4:=fin_le l false;split
 ·split
  ·exact⟨by show (0:Int)<=4;decide,by show (4:Int)<=4;decide,h1⟩
  ·split
   ·refine⟨by show 0<=knd _;omega,h2.2,?_⟩;show (if knd (cutT l false)=1 then []else cutT l false).length<=_;split
    ·exact Nat.zero_le _
    ·omega
   ·exact⟨by decide,by decide,Nat.zero_le _⟩
 ·exact⟨by decide,by decide,Nat.zero_le _⟩
end Tre
namespace Tre
open Utf Rws Pln Flw
open Go.RowKit
open Blk (Rw RwAt z3)
set_option maxHeartbeats 4000000
def RowsA (w:World) (a:Option Addr) (len cap:Nat) (rs:List Rw):Prop:=RowsIn w a len cap rs/\((∃ b off,a=some ⟨b,off,none⟩)\/(a=none/\len=0/\cap=0))
theorem RowsA.later {w w':World} {a:Option Addr} {len cap:Nat} {rs:List Rw} (h:RowsA w a len cap rs) (hb:Below w.heap.size w w'):RowsA w' a len cap rs:=⟨h.1.later hb,h.2⟩
theorem RowsA.nil (w:World):RowsA w none 0 0 []:=⟨RowsIn.nil w,.inr ⟨rfl,rfl,rfl⟩⟩
theorem RowsA.len {w:World} {a:Option Addr} {len cap:Nat} {rs:List Rw} (h:RowsA w a len cap rs):len=rs.length:=by have:=h.1.1.1;omega
theorem RowsA.drop {w:World} {b off len cap:Nat} {rs:List Rw} (h:RowsA w (some ⟨b,off,none⟩) len cap rs) (j:Nat) (hj:j<=len):RowsA w (some (if cap=j then ⟨b,off,none⟩else ⟨b,off+j*3,none⟩)) (len-j) (cap-j) (rs.drop j):=by
 have hc:=h.1.2.1;by_cases e:cap=j
 ·rw[if_pos e];refine⟨⟨⟨by rw[List.length_drop,h.1.1.1],fun hp=>absurd hp (by omega)⟩,by omega,by have:=h.1.2.2.1;omega,fun r hr=>h.1.2.2.2 r (List.mem_of_mem_drop hr)⟩,.inl ⟨_,_,rfl⟩⟩
 ·rw[if_neg e];exact⟨h.1.dropLe j hj,.inl ⟨_,_,rfl⟩⟩
theorem RowsA.take {w:World} {a:Option Addr} {len cap:Nat} {rs:List Rw} (h:RowsA w a len cap rs) (j:Nat) (hj:j<=len):RowsA w a j cap (rs.take j):=by
 have hc:=h.1.2.1;refine⟨⟨⟨by have:=h.1.1.1;rw[List.length_take];omega,fun hp=> ?_⟩,by omega,h.1.2.2.1,fun r hr=>h.1.2.2.2 r (List.mem_of_mem_take hr)⟩,?_⟩
 ·obtain⟨b,off,e,hb,hcell⟩:=h.1.1.2 (by omega);refine⟨b,off,e,hb,fun i hi=> ?_⟩;have:=hcell i (by omega);rw[show (rs.take j).getD i z3=rs.getD i z3 by rw[List.getD_eq_getElem?_getD,List.getD_eq_getElem?_getD,List.getElem?_take_of_lt hi]];exact this
 ·rcases h.2 with q | ⟨q1,q2,q3⟩
  ·exact .inl q
  ·exact .inr ⟨q1,by omega,q3⟩
def CntA (w0:World) (rs:List Rw) (w:World) (e:Ending) (w':World):Prop:=(∃ a' len' cap',e=.returned (.slice a' len' cap')/\RowsA w0 a' len' cap' (cnt rs))/\Below w.heap.size w w'
theorem counted0_any (a:Option Addr) (len cap:Nat) (rs:List Rw) (w0 w:World) (h:RowsIn w0 a len cap rs) (hb0:Below w0.heap.size w0 w):Calls Tryz.prog 30 #[.slice a len cap] w fun e w'=>CntA w0 rs w e w':=by
 have HR:Hid (RowsIn w0 a len cap rs):=h;have HB0:Hid (Below w0.heap.size w0 w):=hb0;have hm:maxLen=9223372036854775807:=rfl;have hcl:len<=cap:=h.2.1;have hcm:cap<=9223372036854775807:=by have:=h.2.2.1;omega
 clear h hb0;go_enter Tryz.func30,Tryz.ntmps30;go_wp2
 go_loopw [7] (fun ui wr=>∃ j:Nat,j<=len/\ui=.int .i64 (j:Int)/\Hid (Below w.heap.size w wr/\∀ i,i<j->noth (rs.getD i z3).2.1=true)) (fun ui _=>len-(intOf ui).toNat)
 case atStart=>exact⟨0,Nat.zero_le _,rfl,Below.refl _ _,fun i hi=>absurd hi (Nat.not_lt_zero _)⟩
 case round =>
  obtain⟨j,hj,rfl,HL⟩:=hrel;by_cases hlt:j<len
  ·obtain⟨b,off,had,hb,hcell⟩:=HR.out.1.2 (by omega);obtain⟨x0,x1,x2⟩:=hcell j hlt;subst had;have hjr:j<rs.length:=by have:=HR.out.1.1;omega
   have htl:=HR.out.2.2.2 _ (getD_memR hjr);have HDR:Hid (RowsA w0 (some ⟨b,off+j*3,none⟩) (len-j) (cap-j) (rs.drop j)):=⟨HR.out.drop j hlt,.inl ⟨_,_,rfl⟩⟩;have HCN:Hid (noth (rs.getD j z3).2.1=false->cnt rs=rs.drop j):=fun hn=>cnt_drop rs j hjr HL.out.2 hn
   have HB1:Hid (Below w0.heap.size w0 wr):=HB0.out.trans (HL.out.1.mono HB0.out.size);replace x0:=(HB1.out.cell (p:=⟨b,off+j*3,none⟩) hb).trans x0;replace x1:=(HB1.out.cell (p:=⟨b,off+j*3+1,none⟩) hb).trans x1;replace x2:=(HB1.out.cell (p:=⟨b,off+j*3+2,none⟩) hb).trans x2;have HIE:Hid (∀ w0,Calls Tryz.prog 33 #[.string (mk (rs.getD j z3).2.1)] w0 fun e w'=>e=.returned (.bool (noth (rs.getD j z3).2.1))/\w0=w'):=fun w0=>isEmpty_any _ w0 (by omega)
   have HBA:Hid (∀ o,Below w.heap.size w (wr.alloc o)):=fun o=>HL.out.1.alloc HL.out.1.size o
   have HNX:Hid (noth (rs.getD j z3).2.1=true->∀ i,i<j+1->noth (rs.getD i z3).2.1=true):=fun hn i hi=>by
    by_cases e:i=j
    ·rw[e];exact hn
    ·exact HL.out.2 i (by omega)
   clear hcell HR htl hjr HL HB1 HB0;generalize (rs.getD j z3).1=rc at *;generalize (rs.getD j z3).2.2=ra at *;generalize (rs.getD j z3).2.1=rt at *;cases hn:noth rt
   ·rw[hn]at HIE;have HCE:Hid (cnt rs=rs.drop j):=HCN.out hn;clear HCN HNX hn;go_wp2_with (go_at_call 33;refine(HIE.out _).mono ?_;rintro e w' ⟨rfl,rfl⟩);go_ret;refine⟨⟨_,_,_,rfl,?_⟩,HBA.out _⟩;rw[HCE.out];have:=HDR.out
    first | exact this | simpa using this
   ·rw[hn]at HIE;have HNE:=HNX.out hn;replace HNE:Hid (∀ i,i<j+1->noth (rs.getD i z3).2.1=true):=HNE;clear HCN HNX hn HDR;go_wp2_with (go_at_call 33;refine(HIE.out _).mono ?_;rintro e w' ⟨rfl,rfl⟩);go_roundw
    case rel=>exact⟨j+1,by omega,by go_num,HBA.out _,HNE.out⟩
    case measure=>simp[intOf];omega
  ·have HCE:Hid (cnt rs=[]):=cnt_all rs (fun i hi=>HL.out.2 i (by have:=HR.out.1.1;omega));have HBB:Hid (Below w.heap.size w wr):=HL.out.1;clear HL HR;go_wp2;go_ret;exact⟨⟨none,0,0,rfl,by rw[HCE.out];exact RowsA.nil _⟩,HBB.out⟩
end Tre
namespace Tre
open Utf Rws Pln Flw
open Go.RowKit
set_option maxHeartbeats 2000000
variable {w:World}
theorem en_bdT (l:Ln):True/\(enT l).text.length<=l.length:=by
 refine⟨trivial,?_⟩;unfold enT ckT;have h1:=rd_olen l;have h3:=cutT_len l false;have h4:=fin_le l false;split
 ·split
  ·exact h1
  ·split
   ·show (if knd (cutT l false)=1 then []else cutT l false).length<=_;split
    ·exact Nat.zero_le _
    ·omega
   ·exact Nat.zero_le _
 ·exact Nat.zero_le _
theorem item_no (ar:Int) (c:Int) (x:Ln) (z:Int) (a:Option Addr) (len cap:Nat) (hx:x.length<=140737488351232) (hi:isIt x=false) :
  Calls Tryz.prog 36 #[.int .i64 ar,rV c x z,.slice a len cap] w fun e w'=>e=.returned (.tuple #[.slice none 0 0,.agg #[.int .i64 3,.int .i64 z]])/\Below w.heap.size w w':=by
 have HFO:Hid (∀ w0,Calls Tryz.prog 31 #[.int .i64 3,.agg #[.int .i64 c,.string (mk x),.int .i64 z]] w0 fun e w'=>e=.returned (.agg #[.int .i64 3,.int .i64 z])/\Below w0.heap.size w0 w'):=fun w0=>faultOf_any 3 c x z w0
 have HI:Hid (∀ w0,Calls Tryz.prog 53 #[.string (mk x)] w0 fun e w'=>e=.returned (.tuple #[.string (mk (itR x)),.int .i64 (itN x:Int),.bool (isIt x)])/\w0=w'):=fun w0=>item0_any x w0 (by omega)
 rw[hi]at HI;generalize itR x=aR at *;generalize itN x=aN at *;have N2:Hid (_/\_/\_):=two_new w #[.int .i64 c,.string (mk x),.int .i64 z] #[.int .i64 0,.int .i64 0] 45 33;go_enter Tryz.func36,Tryz.ntmps36;go_wp2_with fail;change Calls _ _ _ ((w.alloc (.cells #[.int .i64 c,.string (mk x),.int .i64 z] 45)).alloc (.cells #[.int .i64 0,.int .i64 0] 33)) _;generalize (w.alloc (.cells #[.int .i64 c,.string (mk x),.int .i64 z] 45)).alloc (.cells #[.int .i64 0,.int .i64 0] 33)=W at N2 |-;obtain⟨K1,hK1⟩:∃ K,K=w.heap.size+1:=⟨_,rfl⟩;obtain⟨K0,hK0⟩:∃ K,K=w.heap.size:=⟨_,rfl⟩
 have HB:Hid (Below w.heap.size w W/\Bx W K0 #[.int .i64 c,.string (mk x),.int .i64 z] 45/\Bx W K1 #[.int .i64 0,.int .i64 0] 33):=by
  rw[hK0,hK1];exact N2.out
 rw[<-hK1,<-hK0];have hw1:w.heap.size<=K1:=by omega
 have h01:K0≠K1:=by omega
 have h10:K1≠K0:=by omega
 clear N2 hK0 hK1;refine(HI.out W).mono ?_;rintro e w' ⟨rfl,rfl⟩;obtain⟨r0,r1,r2⟩:=HB.out.2.1.c3;go_wp2_with fail;refine(HFO.out _).mono ?_;rintro e w9 ⟨rfl,H9⟩;have HB9:Hid (Below w.heap.size w w9/\Bx w9 K1 #[.int .i64 0,.int .i64 0] 33):=⟨HB.out.1.trans (H9.mono HB.out.1.size),HB.out.2.2.later H9⟩;clear H9;obtain⟨c0,c1⟩:=HB9.out.2.c2;have z0:=HB9.out.2.fz 0;have z1:=HB9.out.2.fz 1
 have HF:Hid (Below w.heap.size w ((w9.setCell ⟨K1,0,none⟩ (.int .i64 3)).setCell ⟨K1,1,none⟩ (.int .i64 z))/\Bx ((w9.setCell ⟨K1,0,none⟩ (.int .i64 3)).setCell ⟨K1,1,none⟩ (.int .i64 z)) K1 #[.int .i64 3,.int .i64 z] 33) :=
  ⟨(HB9.out.1.setCell (p:=⟨K1,0,none⟩) hw1 _).setCell (p:=⟨K1,1,none⟩) hw1 _,(HB9.out.2.set 0 _).set 1 _⟩
 go_wp2;change bodyPost _ _ _ _ _ ((w9.setCell ⟨K1,0,none⟩ (.int .i64 3)).setCell ⟨K1,1,none⟩ (.int .i64 z));generalize (w9.setCell ⟨K1,0,none⟩ (.int .i64 3)).setCell ⟨K1,1,none⟩ (.int .i64 z)=WF at HF |-;obtain⟨j0,j1⟩:=HF.out.2.c2;exact bodyPost_ret (v:=.tuple #[.slice none 0 0,.agg #[.int .i64 3,.int .i64 z]]) (by simp[results,Tryz.results36,go_sem,j0,j1]) rfl ⟨rfl,HF.out.1⟩
theorem entry_er (E ar:Int) (c:Int) (x:Ln) (z:Int) (a:Option Addr) (len cap:Nat) (hx:x.length<=140737488351232) (hT:Tb w) (hh:isEn x=false/\E=3\/isEn x=true/\256<(enT x).text.length/\E=5) :
  Calls Tryz.prog 38 #[.int .i64 ar,rV c x z,.slice a len cap] w fun e w'=>e=.returned (.tuple #[.slice none 0 0,.agg #[.int .i64 E,.int .i64 z]])/\Below w.heap.size w w':=by
 have HFO:Hid (∀ k w0,k=E->Calls Tryz.prog 31 #[.int .i64 k,.agg #[.int .i64 c,.string (mk x),.int .i64 z]] w0 fun e w'=>e=.returned (.agg #[.int .i64 E,.int .i64 z])/\Below w0.heap.size w0 w'):=fun k w0 h=>by subst h;exact faultOf_any k c x z w0
 have HE:Hid (∀ w0,Tb w0->Calls Tryz.prog 56 #[.string (mk x)] w0 fun e w'=>e=.returned (.tuple #[.agg #[.int .i64 (enT x).kind,.string (mk (enT x).text),.string ⟨#[]⟩,.slice none 0 0],.string (mk (enR x)),.int .i64 (enN x:Int),.bool (isEn x)])/\Below w0.heap.size w0 w'):=fun w0 h=>entry0_any x hx h
 have HTb:Hid (Tb w):=hT;clear hT;rcases hh with ⟨hi,hE⟩ | ⟨hi,hlong,hE⟩
 all_goals
  rw[hi]at HE;have hsz:=mk_size (enT x).text;have hbd:=(en_bdT x).2;generalize (enT x).kind=ck at *;generalize (enT x).text=ct at *;generalize enR x=eR at *;generalize enN x=eN at *;have N2:Hid (_/\_/\_):=two_new w #[.int .i64 c,.string (mk x),.int .i64 z] #[.int .i64 0,.int .i64 0] 45 33;go_enter Tryz.func38,Tryz.ntmps38;go_wp2_with fail;change Calls _ _ _ ((w.alloc (.cells #[.int .i64 c,.string (mk x),.int .i64 z] 45)).alloc (.cells #[.int .i64 0,.int .i64 0] 33)) _;generalize (w.alloc (.cells #[.int .i64 c,.string (mk x),.int .i64 z] 45)).alloc (.cells #[.int .i64 0,.int .i64 0] 33)=W at N2 |-;obtain⟨K1,hK1⟩:∃ K,K=w.heap.size+1:=⟨_,rfl⟩;obtain⟨K0,hK0⟩:∃ K,K=w.heap.size:=⟨_,rfl⟩
  have HB:Hid (Below w.heap.size w W/\Bx W K0 #[.int .i64 c,.string (mk x),.int .i64 z] 45/\Bx W K1 #[.int .i64 0,.int .i64 0] 33):=by
   rw[hK0,hK1];exact N2.out
  rw[<-hK1,<-hK0];have hw1:w.heap.size<=K1:=by omega
  have h01:K0≠K1:=by omega
  have h10:K1≠K0:=by omega
  clear N2 hK0 hK1;refine(HE.out W (HTb.out.later HB.out.1)).mono ?_;rintro e w3 ⟨rfl,H3⟩
  have H4:Hid (∀ w4,w4=w3.alloc (.cells #[.int .i64 ck,.string (mk ct),.string ⟨#[]⟩,.slice none 0 0] 24)->(Below w.heap.size w w4/\Bx w4 K0 #[.int .i64 c,.string (mk x),.int .i64 z] 45/\Bx w4 K1 #[.int .i64 0,.int .i64 0] 33)/\Bx w4 w3.heap.size #[.int .i64 ck,.string (mk ct),.string ⟨#[]⟩,.slice none 0 0] 24):=fun w4 e=>by
   subst e;have b:=H3.trans ((below_alloc w3 (.cells #[.int .i64 ck,.string (mk ct),.string ⟨#[]⟩,.slice none 0 0] 24)).mono H3.size);exact⟨⟨HB.out.1.trans (b.mono HB.out.1.size),HB.out.2.1.later b,HB.out.2.2.later b⟩,Bx.new w3 _ _⟩
  clear H3 HB;go_upto_region 2 with fail
  have N4:=H4.out _ rfl;clear H4;generalize w3.alloc (.cells #[.int .i64 ck,.string (mk ct),.string ⟨#[]⟩,.slice none 0 0] 24)=w4 at N4 |-;generalize w3.heap.size=KK at *;have HB4:Hid (Below w.heap.size w w4/\Bx w4 K0 #[.int .i64 c,.string (mk x),.int .i64 z] 45/\Bx w4 K1 #[.int .i64 0,.int .i64 0] 33):=N4.1;have t1:w4.cell? ⟨KK,1,none⟩=some (.string (mk ct)):=N4.2.cell 1;clear N4;obtain⟨r0,r1,r2⟩:=HB4.out.2.1.c3;go_wp2_with fail;refine(HFO.out _ _ hE.symm).mono ?_;rintro e w9 ⟨rfl,H9⟩;clear hE;have HB9:Hid (Below w.heap.size w w9/\Bx w9 K1 #[.int .i64 0,.int .i64 0] 33):=⟨HB4.out.1.trans (H9.mono HB4.out.1.size),HB4.out.2.2.later H9⟩;clear H9;obtain⟨c0,c1⟩:=HB9.out.2.c2;have z0:=HB9.out.2.fz 0;have z1:=HB9.out.2.fz 1
  have HF:Hid (Below w.heap.size w ((w9.setCell ⟨K1,0,none⟩ (.int .i64 E)).setCell ⟨K1,1,none⟩ (.int .i64 z))/\Bx ((w9.setCell ⟨K1,0,none⟩ (.int .i64 E)).setCell ⟨K1,1,none⟩ (.int .i64 z)) K1 #[.int .i64 E,.int .i64 z] 33) :=
   ⟨(HB9.out.1.setCell (p:=⟨K1,0,none⟩) hw1 _).setCell (p:=⟨K1,1,none⟩) hw1 _,(HB9.out.2.set 0 _).set 1 _⟩
  go_wp2;change bodyPost _ _ _ _ _ ((w9.setCell ⟨K1,0,none⟩ (.int .i64 E)).setCell ⟨K1,1,none⟩ (.int .i64 z));generalize (w9.setCell ⟨K1,0,none⟩ (.int .i64 E)).setCell ⟨K1,1,none⟩ (.int .i64 z)=WF at HF |-;obtain⟨j0,j1⟩:=HF.out.2.c2;exact bodyPost_ret (v:=.tuple #[.slice none 0 0,.agg #[.int .i64 E,.int .i64 z]]) (by simp[results,Tryz.results38,go_sem,j0,j1]) rfl ⟨rfl,HF.out.1⟩
end Tre
namespace Tre
open Utf Rws Pln Flw
open Go.RowKit
set_option maxHeartbeats 2000000
variable {w:World}
def PaD (d:Nat) (ks:List Tr) (y z:Int) (w:World) (e:Ending) (w':World):Prop:=∃ B cs,e=.returned (.tuple #[.slice (some ⟨B,0,none⟩) ks.length ks.length,.agg #[.int .i64 y,.int .i64 z]])/\w.heap.size<=B/\Bx w' B cs.toArray 24/\Kd w.heap.size w' d cs ks/\Below w.heap.size w w'
theorem entry_ok (d:Nat) (hd1:1<=d) (ar:Int) (c:Int) (x:Ln) (z:Int) (a:Option Addr) (len cap:Nat) (hx:x.length<=140737488351232) (hT:Tb w) (hi:isEn x=true) (hsh:(enT x).text.length<=256) (R:Tr × Int × Int)
  (HME:Hid (∀ w0,Below w.heap.size w w0->Calls Tryz.prog 39 #[.int .i64 ar,.agg #[.int .i64 c,.string (mk x),.int .i64 z],.string (mk (enR x)),.slice a len cap] w0 fun e w'=>TfD d R w0 e w')) :
  Calls Tryz.prog 38 #[.int .i64 ar,rV c x z,.slice a len cap] w fun e w'=>PaD d [⟨(enT x).kind,(enT x).text,[],[]⟩,R.1] R.2.1 R.2.2 w e w':=by
 have HE:Hid (∀ w0,Tb w0->Calls Tryz.prog 56 #[.string (mk x)] w0 fun e w'=>e=.returned (.tuple #[.agg #[.int .i64 (enT x).kind,.string (mk (enT x).text),.string ⟨#[]⟩,.slice none 0 0],.string (mk (enR x)),.int .i64 (enN x:Int),.bool (isEn x)])/\Below w0.heap.size w0 w'):=fun w0 h=>entry0_any x hx h
 have hbd:=en_bd x;have hsz:=mk_size (enT x).text;have HTb:Hid (Tb w):=hT;clear hT;rw[hi]at HE;generalize (enT x).kind=ck at *;generalize (enT x).text=ct at *;generalize enR x=eR at *;generalize enN x=eN at *;have N2:Hid (_/\_/\_):=two_new w #[.int .i64 c,.string (mk x),.int .i64 z] #[.int .i64 0,.int .i64 0] 45 33;go_enter Tryz.func38,Tryz.ntmps38;go_wp2_with fail;change Calls _ _ _ ((w.alloc (.cells #[.int .i64 c,.string (mk x),.int .i64 z] 45)).alloc (.cells #[.int .i64 0,.int .i64 0] 33)) _;generalize (w.alloc (.cells #[.int .i64 c,.string (mk x),.int .i64 z] 45)).alloc (.cells #[.int .i64 0,.int .i64 0] 33)=W at N2 |-;obtain⟨K1,hK1⟩:∃ K,K=w.heap.size+1:=⟨_,rfl⟩;obtain⟨K0,hK0⟩:∃ K,K=w.heap.size:=⟨_,rfl⟩
 have HB:Hid (Below w.heap.size w W/\Bx W K0 #[.int .i64 c,.string (mk x),.int .i64 z] 45/\Bx W K1 #[.int .i64 0,.int .i64 0] 33):=by
  rw[hK0,hK1];exact N2.out
 rw[<-hK1,<-hK0];have hw1:w.heap.size<=K1:=by omega
 have h01:K0≠K1:=by omega
 have h10:K1≠K0:=by omega
 clear N2 hK0 hK1;refine(HE.out W (HTb.out.later HB.out.1)).mono ?_;rintro e w3 ⟨rfl,H3⟩
 have H4:Hid (∀ w4,w4=w3.alloc (.cells #[.int .i64 ck,.string (mk ct),.string ⟨#[]⟩,.slice none 0 0] 24)->(Below w.heap.size w w4/\Bx w4 K0 #[.int .i64 c,.string (mk x),.int .i64 z] 45/\Bx w4 K1 #[.int .i64 0,.int .i64 0] 33)/\Bx w4 w3.heap.size #[.int .i64 ck,.string (mk ct),.string ⟨#[]⟩,.slice none 0 0] 24):=fun w4 e=>by
  subst e;have b:=H3.trans ((below_alloc w3 (.cells #[.int .i64 ck,.string (mk ct),.string ⟨#[]⟩,.slice none 0 0] 24)).mono H3.size);exact⟨⟨HB.out.1.trans (b.mono HB.out.1.size),HB.out.2.1.later b,HB.out.2.2.later b⟩,Bx.new w3 _ _⟩
 clear H3 HB;go_upto_region 2 with fail
 have N4:=H4.out _ rfl;clear H4;generalize w3.alloc (.cells #[.int .i64 ck,.string (mk ct),.string ⟨#[]⟩,.slice none 0 0] 24)=w4 at N4 |-;generalize w3.heap.size=KK at *;have HB4:Hid (Below w.heap.size w w4/\Bx w4 K0 #[.int .i64 c,.string (mk x),.int .i64 z] 45/\Bx w4 K1 #[.int .i64 0,.int .i64 0] 33):=N4.1;have t0:w4.cell? ⟨KK,0,none⟩=some (.int .i64 ck):=N4.2.cell 0;have t2:w4.cell? ⟨KK,2,none⟩=some (.string ⟨#[]⟩):=N4.2.cell 2;have t3:w4.cell? ⟨KK,3,none⟩=some (.slice none 0 0):=N4.2.cell 3;have t1:w4.cell? ⟨KK,1,none⟩=some (.string (mk ct)):=N4.2.cell 1;have HK4:Hid (Bx w4 KK #[.int .i64 ck,.string (mk ct),.string ⟨#[]⟩,.slice none 0 0] 24):=N4.2;clear N4;obtain⟨r0,r1,r2⟩:=HB4.out.2.1.c3;go_wp2_with fail;refine(HME.out w4 HB4.out.1).mono ?_;rintro e w8 ⟨v,rfl,ht,hb8⟩;obtain⟨k2,x2,a2,ad2,len2,cap2,rfl⟩:=ht.cells;obtain⟨R1,R2,R3⟩:=R;have HK8:Hid (Bx w8 KK #[.int .i64 ck,.string (mk ct),.string ⟨#[]⟩,.slice none 0 0] 24):=HK4.out.later hb8;have HB8:Hid (Below w.heap.size w w8/\Bx w8 K1 #[.int .i64 0,.int .i64 0] 33):=⟨HB4.out.1.trans (hb8.mono HB4.out.1.size),HB4.out.2.2.later hb8⟩;clear t0 t1 t2 t3 r0 r1 r2
 have H9:Hid (∀ w9,w9=(w8.alloc (.cells #[.int .i64 k2,.string x2,.string a2,.slice ad2 len2 cap2] 24)).alloc (.cells #[.int .i64 R2,.int .i64 R3] 33)->(Below w8.heap.size w8 w9/\Bx w9 w8.heap.size #[.int .i64 k2,.string x2,.string a2,.slice ad2 len2 cap2] 24/\Bx w9 (w8.heap.size+1) #[.int .i64 R2,.int .i64 R3] 33)):=fun w9 e=>by
  subst e;exact two_new w8 _ _ _ _
 go_upto_region 7 with fail
 have N9:=H9.out _ rfl;clear H9;change Code.wp _ _ _ _ ((w8.alloc (.cells #[.int .i64 k2,.string x2,.string a2,.slice ad2 len2 cap2] 24)).alloc (.cells #[.int .i64 R2,.int .i64 R3] 33));generalize (w8.alloc (.cells #[.int .i64 k2,.string x2,.string a2,.slice ad2 len2 cap2] 24)).alloc (.cells #[.int .i64 R2,.int .i64 R3] 33)=w9 at N9 |-;obtain⟨K3,hK3⟩:∃ K,K=w8.heap.size+1:=⟨_,rfl⟩;obtain⟨K2,hK2⟩:∃ K,K=w8.heap.size:=⟨_,rfl⟩;rw[<-hK3,<-hK2]
 have HX:Hid (Bx w9 K2 #[.int .i64 k2,.string x2,.string a2,.slice ad2 len2 cap2] 24/\Bx w9 K3 #[.int .i64 R2,.int .i64 R3] 33/\Bx w9 KK #[.int .i64 ck,.string (mk ct),.string ⟨#[]⟩,.slice none 0 0] 24/\Bx w9 K1 #[.int .i64 0,.int .i64 0] 33/\Below w.heap.size w w9/\TrP w4.heap.size w9 d (.agg #[.int .i64 k2,.string x2,.string a2,.slice ad2 len2 cap2]) R1):=by
  rw[hK2,hK3];exact⟨N9.2.1,N9.2.2,HK8.out.later N9.1,HB8.out.2.later N9.1,HB8.out.1.trans (N9.1.mono HB8.out.1.size),TrP.later ht N9.1⟩
 have hK1W:K1<w4.heap.size:=HB4.out.2.2.lt;have hWs:w.heap.size<=w4.heap.size:=HB4.out.1.size;clear N9 HK8 HB8 hK2 hK3 ht hb8 HK4 HB4;obtain⟨p0,p1,p2,p3⟩:=HX.out.1.c4;obtain⟨q0,q1⟩:=HX.out.2.1.c2;obtain⟨t0,t1,t2,t3⟩:=HX.out.2.2.1.c4;obtain⟨c0,c1⟩:=HX.out.2.2.2.1.c2;have z0:=HX.out.2.2.2.1.fz 0;have z1:=HX.out.2.2.2.1.fz 1;have BA:=below_alloc w9 (.cells #[.int .i64 ck,.string (mk ct),.string ⟨#[]⟩,.slice none 0 0,.int .i64 k2,.string x2,.string a2,.slice ad2 len2 cap2] 24);have XA:=HX.out.2.2.2.1.later BA;have XB:=HX.out.2.1.later BA;have u0:(w9.alloc (.cells #[.int .i64 ck,.string (mk ct),.string ⟨#[]⟩,.slice none 0 0,.int .i64 k2,.string x2,.string a2,.slice ad2 len2 cap2] 24)).cell? ⟨K1,0,none⟩=some (.int .i64 0):=XA.cell 0;have u1:(w9.alloc (.cells #[.int .i64 ck,.string (mk ct),.string ⟨#[]⟩,.slice none 0 0,.int .i64 k2,.string x2,.string a2,.slice ad2 len2 cap2] 24)).frozen? ⟨K1,0,none⟩=false:=XA.fz 0;have u2:(w9.alloc (.cells #[.int .i64 ck,.string (mk ct),.string ⟨#[]⟩,.slice none 0 0,.int .i64 k2,.string x2,.string a2,.slice ad2 len2 cap2] 24)).cell? ⟨K1,1,none⟩=some (.int .i64 0):=XA.cell 1;have u3:(w9.alloc (.cells #[.int .i64 ck,.string (mk ct),.string ⟨#[]⟩,.slice none 0 0,.int .i64 k2,.string x2,.string a2,.slice ad2 len2 cap2] 24)).frozen? ⟨K1,1,none⟩=false:=XA.fz 1;obtain⟨u4,u5⟩:=XB.c2;have u6:(w9.alloc (.cells #[.int .i64 ck,.string (mk ct),.string ⟨#[]⟩,.slice none 0 0,.int .i64 k2,.string x2,.string a2,.slice ad2 len2 cap2] 24)).drew.cell? ⟨K1,0,none⟩=some (.int .i64 0):=XA.cell 0;have u7:(w9.alloc (.cells #[.int .i64 ck,.string (mk ct),.string ⟨#[]⟩,.slice none 0 0,.int .i64 k2,.string x2,.string a2,.slice ad2 len2 cap2] 24)).drew.frozen? ⟨K1,0,none⟩=false:=XA.fz 0;have u8:(w9.alloc (.cells #[.int .i64 ck,.string (mk ct),.string ⟨#[]⟩,.slice none 0 0,.int .i64 k2,.string x2,.string a2,.slice ad2 len2 cap2] 24)).drew.cell? ⟨K1,1,none⟩=some (.int .i64 0):=XA.cell 1;have u9:(w9.alloc (.cells #[.int .i64 ck,.string (mk ct),.string ⟨#[]⟩,.slice none 0 0,.int .i64 k2,.string x2,.string a2,.slice ad2 len2 cap2] 24)).drew.frozen? ⟨K1,1,none⟩=false:=XA.fz 1;obtain⟨u10,u11⟩:=XB.c2;clear BA XA XB
 have HF:Hid (Below w.heap.size w (((w9.alloc (.cells #[.int .i64 ck,.string (mk ct),.string ⟨#[]⟩,.slice none 0 0,.int .i64 k2,.string x2,.string a2,.slice ad2 len2 cap2] 24)).setCell ⟨K1,0,none⟩ (.int .i64 R2)).setCell ⟨K1,1,none⟩ (.int .i64 R3))/\Bx (((w9.alloc (.cells #[.int .i64 ck,.string (mk ct),.string ⟨#[]⟩,.slice none 0 0,.int .i64 k2,.string x2,.string a2,.slice ad2 len2 cap2] 24)).setCell ⟨K1,0,none⟩ (.int .i64 R2)).setCell ⟨K1,1,none⟩ (.int .i64 R3)) w9.heap.size #[.int .i64 ck,.string (mk ct),.string ⟨#[]⟩,.slice none 0 0,.int .i64 k2,.string x2,.string a2,.slice ad2 len2 cap2] 24/\Bx (((w9.alloc (.cells #[.int .i64 ck,.string (mk ct),.string ⟨#[]⟩,.slice none 0 0,.int .i64 k2,.string x2,.string a2,.slice ad2 len2 cap2] 24)).setCell ⟨K1,0,none⟩ (.int .i64 R2)).setCell ⟨K1,1,none⟩ (.int .i64 R3)) K1 #[.int .i64 R2,.int .i64 R3] 33/\Kd w.heap.size (((w9.alloc (.cells #[.int .i64 ck,.string (mk ct),.string ⟨#[]⟩,.slice none 0 0,.int .i64 k2,.string x2,.string a2,.slice ad2 len2 cap2] 24)).setCell ⟨K1,0,none⟩ (.int .i64 R2)).setCell ⟨K1,1,none⟩ (.int .i64 R3)) d [.int .i64 ck,.string (mk ct),.string ⟨#[]⟩,.slice none 0 0,.int .i64 k2,.string x2,.string a2,.slice ad2 len2 cap2] [⟨ck,ct,[],[]⟩,R1]):=by
  have BA:=below_alloc w9 (.cells #[.int .i64 ck,.string (mk ct),.string ⟨#[]⟩,.slice none 0 0,.int .i64 k2,.string x2,.string a2,.slice ad2 len2 cap2] 24);have hn:w9.heap.size≠K1:=by have:=HX.out.2.2.2.1.lt;omega
  have h1:=HX.out.2.2.2.2.1;have ht9:TrP w4.heap.size (((w9.alloc (.cells #[.int .i64 ck,.string (mk ct),.string ⟨#[]⟩,.slice none 0 0,.int .i64 k2,.string x2,.string a2,.slice ad2 len2 cap2] 24)).setCell ⟨K1,0,none⟩ (.int .i64 R2)).setCell ⟨K1,1,none⟩ (.int .i64 R3)) d (.agg #[.int .i64 k2,.string x2,.string a2,.slice ad2 len2 cap2]) R1:=((HX.out.2.2.2.2.2.later BA).set hK1W).set hK1W;refine⟨((h1.trans (BA.mono h1.size)).setCell (p:=⟨K1,0,none⟩) hw1 _).setCell (p:=⟨K1,1,none⟩) hw1 _,((Bx.new w9 _ _).other hn _ _).other hn _ _,((HX.out.2.2.2.1.later BA).set 0 _).set 1 _,?_⟩;exact Kd.app (ks:=[⟨ck,ct,[],[]⟩]) (js:=[R1]) (Kd.one (TrP.more (TrP.leaf ck ct [] ⟨by omega,by omega⟩ (by omega) (by simp) 0) hd1)) (Kd.one (TrP.mono hWs ht9))
 have hWB:w.heap.size<=w9.heap.size:=HX.out.2.2.2.2.1.size;clear HX;go_region;go_wp2;change bodyPost _ _ _ _ _ (((w9.alloc (.cells #[.int .i64 ck,.string (mk ct),.string ⟨#[]⟩,.slice none 0 0,.int .i64 k2,.string x2,.string a2,.slice ad2 len2 cap2] 24)).setCell ⟨K1,0,none⟩ (.int .i64 R2)).setCell ⟨K1,1,none⟩ (.int .i64 R3)).drew;generalize ((w9.alloc (.cells #[.int .i64 ck,.string (mk ct),.string ⟨#[]⟩,.slice none 0 0,.int .i64 k2,.string x2,.string a2,.slice ad2 len2 cap2] 24)).setCell ⟨K1,0,none⟩ (.int .i64 R2)).setCell ⟨K1,1,none⟩ (.int .i64 R3)=WW at HF |-;obtain⟨j0,j1⟩:=HF.out.2.2.1.c2;refine bodyPost_ret (v:=.tuple #[.slice (some ⟨w9.heap.size,0,none⟩) 2 2,.agg #[.int .i64 R2,.int .i64 R3]]) (by simp[results,Tryz.results38,go_sem,j0,j1]) rfl ?_;exact⟨w9.heap.size,[.int .i64 ck,.string (mk ct),.string ⟨#[]⟩,.slice none 0 0,.int .i64 k2,.string x2,.string a2,.slice ad2 len2 cap2],rfl,hWB,HF.out.2.1.drew 1,HF.out.2.2.2.later ((Below.refl _ _).drew),HF.out.1.drew⟩
end Tre
namespace Tre
open Utf Rws Pln Flw
open Go.RowKit
open Blk (Rw RwAt z3)
set_option maxHeartbeats 8000000
def PtD (d:Nat) (q:List Tr × Int × Int) (w:World) (e:Ending) (w':World):Prop :=
 (q.2.1≠0->∃ ad m n,e=.returned (.tuple #[.slice ad m n,fV q.2.1 q.2.2]))/\(q.2.1=0->PaD d q.1 0 q.2.2 w e w'/\q.1.length<=2)/\Below w.heap.size w w'
def KiRes (d:Nat) (q:List Tr × Int × Int) (w:World) (e:Ending) (w':World):Prop :=
 (q.2.1≠0->e=.returned (.tuple #[.slice none 0 0,fV q.2.1 q.2.2])) /\
 (q.2.1=0->∃ v n xs,e=.returned (.tuple #[v,fV q.2.1 q.2.2])/\w'.ownsRow w.heap.size 24 4 v n xs/\n=q.1.length/\Kd w.heap.size w' d xs q.1)/\Below w.heap.size w w'
abbrev rA (r:Rw):Array Value:=#[.int .i64 r.1,.string (mk r.2.1),.int .i64 r.2.2]
structure Ki (w0 w:World) (d C K0 K1 KR:Nat) (fc:Array Value) (r:Rw) (v:Value) (m:Nat) (xs:List Value) (ks:List Tr):Prop where
 bl:Below w0.heap.size w0 w
 k0:Bx w K0 fc 45
 k1:Bx w K1 zF 33
 kr:Bx w KR (rA r) 45
 own:w.ownsRow C 24 4 v m xs
 kd:KdQ (Out C v) w d xs ks
 h0:w0.heap.size<=K0
 h1:K0<K1
 h2:K1<KR
 h3:KR<C
 hc:C<=w.heap.size
variable {w0 w w1:World} {d C K0 K1 KR m:Nat} {fc:Array Value} {r:Rw} {v:Value} {xs:List Value} {ks:List Tr}
theorem Ki.later (h:Ki w0 w d C K0 K1 KR fc r v m xs ks) (hb:Below w.heap.size w w1):Ki w0 w1 d C K0 K1 KR fc r v m xs ks :=
 ⟨h.bl.trans (hb.mono h.bl.size),h.k0.later hb,h.k1.later hb,h.kr.later hb,own_keep h.own (fun j _ hj=>hb.block j hj),h.kd.later hb,h.h0,h.h1,h.h2,h.h3,Nat.le_trans h.hc hb.size⟩
theorem Ki.more (h:Ki w0 w d C K0 K1 KR fc r v m xs ks) {v':Value} {m':Nat} {ys:List Value} {js:List Tr} (hown:w1.ownsRow C 24 4 v' m' (xs++ys)) (hg:w.grownBy w1 v.ownBlock) (hat:v'.ownBlock=v.ownBlock\/v'.ownBlock=some w.heap.size)
  (hk:KdQ (Out C v) w d ys js):Ki w0 w1 d C K0 K1 KR fc r v' m' (xs++ys) (ks++js):=by
 have h0:=h.h0;have h1:=h.h1;have h2:=h.h2;have h3:=h.h3;have hfs:=h.bl.size;have hrow:∀ k,v.ownBlock=some k->C<=k:=fun k hk=>(own_blk h.own hk).1
 have hkeep:∀ j,j<w.heap.size->(∀ k,v.ownBlock=some k->j≠k)->w1.heap[j]?=w.heap[j]?:=fun j hj hne=>hg.block j hj (fun e=>hne j e.symm rfl)
 have hlow:∀ j,j<C->j<w.heap.size->w1.heap[j]?=w.heap[j]?:=fun j hj hw=>hkeep j hw (fun k hk=>by have:=hrow k hk;omega)
 have hl0:=h.k0.lt;have hl1:=h.k1.lt;have hlr:=h.kr.lt;refine⟨⟨hg.os.trans h.bl.os,hg.tape.trans h.bl.tape,hg.output.trans h.bl.output,Nat.le_trans hfs hg.size,fun j hj=>(hlow j (by omega) (by omega)).trans (h.bl.block j hj)⟩,(hlow K0 (by omega) hl0).trans h.k0,(hlow K1 (by omega) hl1).trans h.k1,(hlow KR (by omega) hlr).trans h.kr,hown,?_,h0,h1,h2,h3,Nat.le_trans h.hc hg.size⟩;have k2:KdQ (fun j=>Out C v j/\j<w.heap.size) w d (xs++ys) (ks++js):=(h.kd.app hk).wide (fun j a c=>⟨a,c⟩);refine(k2.keep hg.size (fun j a _=>hkeep j a.2 a.1.2)).wide (fun j a _=>⟨a.1.1,fun k hk=> ?_⟩);rcases hat with e | e
 ·rw[e]at hk;exact a.1.2 k hk
 ·rw[e]at hk;cases hk;exact Nat.ne_of_lt a.2
theorem ki_row (h:Ki w0 w d C K0 K1 KR fc r v m xs ks) (q:Rw):Ki w0 (((w.setCell ⟨KR,0,none⟩ (.int .i64 q.1)).setCell ⟨KR,1,none⟩ (.string (mk q.2.1))).setCell ⟨KR,2,none⟩ (.int .i64 q.2.2)) d C K0 K1 KR fc q v m xs ks:=by
 have h0:=h.h0;have h1:=h.h1;have h2:=h.h2;have h3:=h.h3
 have hk:∀ j,j≠KR->(((w.setCell ⟨KR,0,none⟩ (.int .i64 q.1)).setCell ⟨KR,1,none⟩ (.string (mk q.2.1))).setCell ⟨KR,2,none⟩ (.int .i64 q.2.2)).heap[j]?=w.heap[j]?:=fun j hj=>by
  rw[Below.heap_setCell _ _ _ _ hj,Below.heap_setCell _ _ _ _ hj,Below.heap_setCell _ _ _ _ hj]
 have hw:w0.heap.size<=KR:=by omega
 refine⟨((h.bl.setCell (p:=⟨KR,0,none⟩) hw _).setCell (p:=⟨KR,1,none⟩) hw _).setCell (p:=⟨KR,2,none⟩) hw _,(hk K0 (by omega)).trans h.k0,(hk K1 (by omega)).trans h.k1,((h.kr.set 0 _).set 1 _).set 2 _,own_keep h.own (fun j a _=>hk j (by omega)),h.kd.keep (by simp[World.setCell]) (fun j a _=>hk j (by have:=a.1;omega)),h0,h1,h2,h3,by simp only[World.size_setCell];exact h.hc⟩
theorem Ki.out (h:Ki w0 w d C K0 K1 KR fc r v m xs ks) (x y:Value):Below w0.heap.size w0 ((w.setCell ⟨K1,0,none⟩ x).setCell ⟨K1,1,none⟩ y)/\Bx ((w.setCell ⟨K1,0,none⟩ x).setCell ⟨K1,1,none⟩ y) K1 #[x,y] 33 /\
  ((w.setCell ⟨K1,0,none⟩ x).setCell ⟨K1,1,none⟩ y).ownsRow w0.heap.size 24 4 v m xs/\Kd w0.heap.size ((w.setCell ⟨K1,0,none⟩ x).setCell ⟨K1,1,none⟩ y) d xs ks:=by
 have h0:=h.h0;have h1:=h.h1;have h2:=h.h2;have h3:=h.h3;have hw:w0.heap.size<=K1:=by omega
 have hk:∀ j,C<=j->j<w.heap.size->((w.setCell ⟨K1,0,none⟩ x).setCell ⟨K1,1,none⟩ y).heap[j]?=w.heap[j]?:=fun j hj _=>by
  rw[Below.heap_setCell _ _ _ _ (fun e=>by simp only at e;omega),Below.heap_setCell _ _ _ _ (fun e=>by simp only at e;omega)]
 exact⟨(h.bl.setCell (p:=⟨K1,0,none⟩) hw _).setCell (p:=⟨K1,1,none⟩) hw _,(h.k1.set 0 _).set 1 _,own_down (own_keep h.own hk) (by omega),(h.kd.keep (by simp[World.setCell]) (fun j a c=>hk j a.1 c)).wide (fun j a _=>by have:=a.1;omega)⟩
theorem wp_then2 {P:Program} {cd:Code} {Q:Exit->Go.Act->World->Prop} {a:Go.Act} {w:World} (F:Nat->Nat->Go.Act) (I:Nat->Nat->World->Prop) (h1:Hid (∀ p q w',I p q w'->Q .normal (F p q) w')->cd.wp P Q a w) (h2:∀ p q w',I p q w'->Q .normal (F p q) w'):cd.wp P Q a w:=h1 h2
def slLen:Value->Nat
 | .slice _ n _=>n
 | _=>0
theorem kiM_at (part:Rw->List Rw->List Tr × Int × Int) (c:Int) (n:Nat) (r:Rw) (more:List Rw) (acc:List Tr):kiM part c (n+1) r more acc =
  if (part r (more.take (dpn more c))).2.1≠0 then ([],(part r (more.take (dpn more c))).2)else
  if dpn more c=more.length then (acc++(part r (more.take (dpn more c))).1,0,0)else
  if (more.getD (dpn more c) z3).1<c then ([],9,(more.getD (dpn more c) z3).2.2)else kiM part c n (more.getD (dpn more c) z3) (more.drop (dpn more c+1)) (acc++(part r (more.take (dpn more c))).1):=by
 rw[kiM];split
 ·rfl
 ·have hl:=dpn_le more c;by_cases h:dpn more c=more.length
  ·rw[if_pos h,List.drop_eq_nil_of_le (by omega)]
  ·rw[if_neg h,Blk.drop_getR more (dpn more c) (by omega)]
end Tre
namespace Tre
open Utf Rws Pln Flw
open Go.RowKit
set_option maxHeartbeats 2000000
theorem isEntry_any (l:Ln) (w:World) (hl:l.length<=140737488351232) (hT:Tb w):Calls Tryz.prog 37 #[.string (mk l)] w fun e w'=>e=.returned (.bool (isEn l))/\Below w.heap.size w w':=by
 have HE:Hid (Calls Tryz.prog 56 #[.string (mk l)] w fun e w'=>e=.returned (.tuple #[.agg #[.int .i64 (enT l).kind,.string (mk (enT l).text),.string ⟨#[]⟩,.slice none 0 0],.string (mk (enR l)),.int .i64 (enN l:Int),.bool (isEn l)])/\Below w.heap.size w w'):=entry0_any l hl hT;clear hT;generalize (enT l).kind=ck at *;generalize (enT l).text=ct at *;generalize enR l=eR at *;generalize enN l=eN at *;generalize isEn l=eB at *;go_enter Tryz.func37,Tryz.ntmps37;go_wp2_with fail;refine HE.out.mono ?_;rintro e w3 ⟨rfl,H3⟩;have B3:Hid (Below w.heap.size w w3):=H3;clear H3;go_wp2;go_ret;exact⟨rfl,B3.out.trans ((below_alloc w3 _).mono B3.out.size)⟩
end Tre
namespace Tre
open Utf Rws Pln Flw
open Go.RowKit
open Blk (Rw RwAt z3)
set_option maxHeartbeats 8000000
theorem value_deep (d:Nat) (hd:1<=d) (c:Int) (x:Ln) (z:Int) (a:Option Addr) (len cap:Nat) (w:World) :
  Calls Tryz.prog 19 #[.int .i64 64,rV c x z,.slice a len cap] w fun e w'=>TfD d (tr0,10,z) w e w':=by
 have N3:Hid (_/\_/\_/\_):=three_new w #[.int .i64 c,.string (mk x),.int .i64 z] zT #[.int .i64 0,.int .i64 0] 45 24 33;go_enter Tryz.func19,Tryz.ntmps19;go_wp2_with fail;change Calls _ _ _ (((w.alloc (.cells #[.int .i64 c,.string (mk x),.int .i64 z] 45)).alloc (.cells zT 24)).alloc (.cells #[.int .i64 0,.int .i64 0] 33)) _;generalize ((w.alloc (.cells #[.int .i64 c,.string (mk x),.int .i64 z] 45)).alloc (.cells zT 24)).alloc (.cells #[.int .i64 0,.int .i64 0] 33)=W at N3 |-;obtain⟨K2,hK2⟩:∃ K,K=w.heap.size+1+1:=⟨_,rfl⟩;obtain⟨K1,hK1⟩:∃ K,K=w.heap.size+1:=⟨_,rfl⟩;obtain⟨K0,hK0⟩:∃ K,K=w.heap.size:=⟨_,rfl⟩
 have HN:Hid (Below w.heap.size w W/\Bx W K0 #[.int .i64 c,.string (mk x),.int .i64 z] 45/\Bx W K1 zT 24/\Bx W K2 #[.int .i64 0,.int .i64 0] 33):=by
  rw[hK0,hK1,hK2];exact N3.out
 rw[<-hK2,<-hK1,<-hK0];have hwW:w.heap.size<=K0/\K0<K1/\K1<K2:=by omega
 have hK2W:K2<W.heap.size:=HN.out.2.2.2.lt;have hn12:K1≠K2:=by omega
 have hn21:K2≠K1:=by omega
 clear N3 hK0 hK1 hK2;have HFO:Hid (Calls Tryz.prog 31 #[.int .i64 10,rV c x z] W fun e w'=>e=.returned (fV 10 z)/\Below W.heap.size W w'):=faultOf_any 10 c x z W;refine HFO.out.mono ?_;rintro e w3 ⟨rfl,H3⟩;have HS:Hid (Below w.heap.size w w3/\Bx w3 K1 zT 24/\Bx w3 K2 #[.int .i64 0,.int .i64 0] 33):=⟨HN.out.1.trans (H3.mono HN.out.1.size),HN.out.2.2.1.later H3,HN.out.2.2.2.later H3⟩;clear HN H3 HFO;obtain⟨d0,d1,d2,d3,d4,d5,z0,z1,z2,z3,z4,z5⟩:=c6_of HS.out.2.1 HS.out.2.2;have HF:Hid (_/\_/\_):=fill6_is HS.out.2.1 HS.out.2.2 hn12 HS.out.1 (by omega) (by omega) (.int .i64 0) (.string ⟨#[]⟩) (.string ⟨#[]⟩) (.slice none 0 0) (.int .i64 10) (.int .i64 z);have HTF:Hid True:=trivial;clear HS;go_wp2;change bodyPost _ _ _ _ _ (fill6 w3 K1 K2 (.int .i64 0) (.string ⟨#[]⟩) (.string ⟨#[]⟩) (.slice none 0 0) (.int .i64 10) (.int .i64 z));generalize fill6 w3 K1 K2 (.int .i64 0) (.string ⟨#[]⟩) (.string ⟨#[]⟩) (.slice none 0 0) (.int .i64 10) (.int .i64 z)=WF at HF HTF |-;have j0:WF.cell? ⟨K1,0,none⟩=_:=HF.out.2.1.cell 0;have j1:WF.cell? ⟨K1,1,none⟩=_:=HF.out.2.1.cell 1;have j2:WF.cell? ⟨K1,2,none⟩=_:=HF.out.2.1.cell 2;have j3:WF.cell? ⟨K1,3,none⟩=_:=HF.out.2.1.cell 3;have j4:WF.cell? ⟨K2,0,none⟩=_:=HF.out.2.2.cell 0;have j5:WF.cell? ⟨K2,1,none⟩=_:=HF.out.2.2.cell 1;refine bodyPost_ret (v:=.tuple #[.agg #[.int .i64 0,.string ⟨#[]⟩,.string ⟨#[]⟩,.slice none 0 0],.agg #[.int .i64 10,.int .i64 z]]) (by simp[results,Tryz.results19,go_sem,j0,j1,j2,j3,j4,j5]) rfl ?_;exact⟨_,rfl,TrP.more (TrP.leaf 0 [] [] (by decide) (by decide) (by decide) 0) hd,HF.out.1⟩
theorem value_mean (d:Nat) (ar:Int) (c:Int) (x:Ln) (z:Int) (a:Option Addr) (len cap:Nat) (w:World) (hx:x.length<=140737488351232) (hT:Tb w) (har:ar≠64) (hb1: -9223372036854775808<=ar) (hb2:ar<=64) (hi:isIt x=false) (he:isEn x=false) (R:Tf)
  (HME:Hid (∀ w0,Below w.heap.size w w0->Calls Tryz.prog 39 #[.int .i64 ar,.agg #[.int .i64 c,.string (mk x),.int .i64 z],.string (mk x),.slice a len cap] w0 fun e w'=>TfD d R w0 e w')) :
  Calls Tryz.prog 19 #[.int .i64 ar,rV c x z,.slice a len cap] w fun e w'=>TfD d R w e w':=by
 have HII:Hid (∀ w0,Calls Tryz.prog 34 #[.string (mk x)] w0 fun e w'=>e=.returned (.bool false)/\w0=w'):=fun w0=>by
  have h:=isItem_any x w0 (by omega);rw[hi]at h;exact h
 have HIE:Hid (∀ w0,Tb w0->Calls Tryz.prog 37 #[.string (mk x)] w0 fun e w'=>e=.returned (.bool false)/\Below w0.heap.size w0 w'):=fun w0 ht=>by
  have h:=isEntry_any x w0 (by omega) ht;rw[he]at h;exact h
 have HTb:Hid (Tb w):=hT;have harb:(ar==64)=false:=by rw[beq_eq_false_iff_ne];exact har
 clear hT hi he har;have N3:Hid (_/\_/\_/\_):=three_new w #[.int .i64 c,.string (mk x),.int .i64 z] zT #[.int .i64 0,.int .i64 0] 45 24 33;go_enter Tryz.func19,Tryz.ntmps19;go_wp2_with fail;change Calls _ _ _ (((w.alloc (.cells #[.int .i64 c,.string (mk x),.int .i64 z] 45)).alloc (.cells zT 24)).alloc (.cells #[.int .i64 0,.int .i64 0] 33)) _;generalize ((w.alloc (.cells #[.int .i64 c,.string (mk x),.int .i64 z] 45)).alloc (.cells zT 24)).alloc (.cells #[.int .i64 0,.int .i64 0] 33)=W at N3 |-;obtain⟨K2,hK2⟩:∃ K,K=w.heap.size+1+1:=⟨_,rfl⟩;obtain⟨K1,hK1⟩:∃ K,K=w.heap.size+1:=⟨_,rfl⟩;obtain⟨K0,hK0⟩:∃ K,K=w.heap.size:=⟨_,rfl⟩
 have HN:Hid (Below w.heap.size w W/\Bx W K0 #[.int .i64 c,.string (mk x),.int .i64 z] 45/\Bx W K1 zT 24/\Bx W K2 #[.int .i64 0,.int .i64 0] 33):=by
  rw[hK0,hK1,hK2];exact N3.out
 rw[<-hK2,<-hK1,<-hK0];have hwW:w.heap.size<=K0/\K0<K1/\K1<K2:=by omega
 have hK2W:K2<W.heap.size:=HN.out.2.2.2.lt;have hn12:K1≠K2:=by omega
 have hn21:K2≠K1:=by omega
 clear N3 hK0 hK1 hK2;refine(HII.out _).mono ?_;rintro e w' ⟨rfl,rfl⟩;obtain⟨r0,r1,r2⟩:=HN.out.2.1.c3;go_wp2_with fail;refine(HIE.out _ (HTb.out.later HN.out.1)).mono ?_;rintro e w4 ⟨rfl,H4⟩;have HS:Hid (Below w.heap.size w w4/\Bx w4 K0 #[.int .i64 c,.string (mk x),.int .i64 z] 45/\Bx w4 K1 zT 24/\Bx w4 K2 #[.int .i64 0,.int .i64 0] 33/\W.heap.size<=w4.heap.size):=⟨HN.out.1.trans (H4.mono HN.out.1.size),HN.out.2.1.later H4,HN.out.2.2.1.later H4,HN.out.2.2.2.later H4,H4.size⟩;clear HN H4 r0 r1 r2;obtain⟨r0,r1,r2⟩:=HS.out.2.1.c3;go_wp2_with fail;refine(HME.out w4 HS.out.1).mono ?_;rintro e w8 ⟨v,rfl,ht,hb8⟩;obtain⟨k2,x2,a2,ad2,len2,cap2,rfl⟩:=ht.cells;obtain⟨R1,R2,R3⟩:=R;have B8:Hid (Below w.heap.size w w8/\Bx w8 K1 zT 24/\Bx w8 K2 #[.int .i64 0,.int .i64 0] 33):=⟨HS.out.1.trans (hb8.mono HS.out.1.size),HS.out.2.2.1.later hb8,HS.out.2.2.2.1.later hb8⟩;have HT8:Hid (TrP W.heap.size w8 d (.agg #[.int .i64 k2,.string x2,.string a2,.slice ad2 len2 cap2]) R1):=TrP.mono HS.out.2.2.2.2 ht;clear ht hb8 HS r0 r1 r2;obtain⟨d0,d1,d2,d3,d4,d5,z0,z1,z2,z3,z4,z5⟩:=c6_of B8.out.2.1 B8.out.2.2;have hq1:K1<W.heap.size:=by omega
 have HF:Hid (_/\_/\_):=fill6_is B8.out.2.1 B8.out.2.2 hn12 B8.out.1 (by omega) (by omega) (.int .i64 k2) (.string x2) (.string a2) (.slice ad2 len2 cap2) (.int .i64 R2) (.int .i64 R3)
 have HTF:Hid (TrP w.heap.size (fill6 w8 K1 K2 (.int .i64 k2) (.string x2) (.string a2) (.slice ad2 len2 cap2) (.int .i64 R2) (.int .i64 R3)) d (.agg #[.int .i64 k2,.string x2,.string a2,.slice ad2 len2 cap2]) R1) :=
  TrP.mono (c:=W.heap.size) (by omega) ((((((HT8.out.set hq1).set hq1).set hq1).set hq1).set hK2W).set hK2W)
 clear B8 HT8;go_wp2;change bodyPost _ _ _ _ _ (fill6 w8 K1 K2 (.int .i64 k2) (.string x2) (.string a2) (.slice ad2 len2 cap2) (.int .i64 R2) (.int .i64 R3));generalize fill6 w8 K1 K2 (.int .i64 k2) (.string x2) (.string a2) (.slice ad2 len2 cap2) (.int .i64 R2) (.int .i64 R3)=WF at HF HTF |-;have j0:WF.cell? ⟨K1,0,none⟩=_:=HF.out.2.1.cell 0;have j1:WF.cell? ⟨K1,1,none⟩=_:=HF.out.2.1.cell 1;have j2:WF.cell? ⟨K1,2,none⟩=_:=HF.out.2.1.cell 2;have j3:WF.cell? ⟨K1,3,none⟩=_:=HF.out.2.1.cell 3;have j4:WF.cell? ⟨K2,0,none⟩=_:=HF.out.2.2.cell 0;have j5:WF.cell? ⟨K2,1,none⟩=_:=HF.out.2.2.cell 1;refine bodyPost_ret (v:=.tuple #[.agg #[.int .i64 k2,.string x2,.string a2,.slice ad2 len2 cap2],.agg #[.int .i64 R2,.int .i64 R3]]) (by simp[results,Tryz.results19,go_sem,j0,j1,j2,j3,j4,j5]) rfl ?_;exact⟨_,rfl,HTF.out,HF.out.1⟩
theorem value_seq (d:Nat) (ar:Int) (c:Int) (x:Ln) (z:Int) (a:Option Addr) (len cap:Nat) (w:World) (hx:x.length<=140737488351232) (hT:Tb w) (har:ar≠64) (hb1:0<=ar) (hb2:ar<=64) (hi:isIt x=true) (q:List Tr × Int × Int) (hq0:q.2.1≠0->q.1=[])
  (HKI:Hid (∀ w0,Below w.heap.size w w0->Calls Tryz.prog 35 #[rV c x z,.slice a len cap,.func (.func 36) #[.int .i64 (ar+1)] #[]] w0 fun e w'=>KiRes d q w0 e w')) :
  Calls Tryz.prog 19 #[.int .i64 ar,rV c x z,.slice a len cap] w fun e w'=>TfD (d+1) (⟨5,[],[],q.1⟩,q.2) w e w':=by
 have HII:Hid (∀ w0,Calls Tryz.prog 34 #[.string (mk x)] w0 fun e w'=>e=.returned (.bool true)/\w0=w'):=fun w0=>by
  have h:=isItem_any x w0 (by omega);rw[hi]at h;exact h
 have HTb:Hid (Tb w):=hT;have harb:(ar==64)=false:=by rw[beq_eq_false_iff_ne];exact har
 clear hT hi har;have N3:Hid (_/\_/\_/\_):=three_new w #[.int .i64 c,.string (mk x),.int .i64 z] zT #[.int .i64 0,.int .i64 0] 45 24 33;go_enter Tryz.func19,Tryz.ntmps19;go_wp2_with fail;change Calls _ _ _ (((w.alloc (.cells #[.int .i64 c,.string (mk x),.int .i64 z] 45)).alloc (.cells zT 24)).alloc (.cells #[.int .i64 0,.int .i64 0] 33)) _;generalize ((w.alloc (.cells #[.int .i64 c,.string (mk x),.int .i64 z] 45)).alloc (.cells zT 24)).alloc (.cells #[.int .i64 0,.int .i64 0] 33)=W at N3 |-;obtain⟨K2,hK2⟩:∃ K,K=w.heap.size+1+1:=⟨_,rfl⟩;obtain⟨K1,hK1⟩:∃ K,K=w.heap.size+1:=⟨_,rfl⟩;obtain⟨K0,hK0⟩:∃ K,K=w.heap.size:=⟨_,rfl⟩
 have HN:Hid (Below w.heap.size w W/\Bx W K0 #[.int .i64 c,.string (mk x),.int .i64 z] 45/\Bx W K1 zT 24/\Bx W K2 #[.int .i64 0,.int .i64 0] 33):=by
  rw[hK0,hK1,hK2];exact N3.out
 rw[<-hK2,<-hK1,<-hK0];have hwW:w.heap.size<=K0/\K0<K1/\K1<K2:=by omega
 have hK2W:K2<W.heap.size:=HN.out.2.2.2.lt;have hn12:K1≠K2:=by omega
 have hn21:K2≠K1:=by omega
 clear N3 hK0 hK1 hK2;refine(HII.out _).mono ?_;rintro e w' ⟨rfl,rfl⟩;have HS:Hid (Below w.heap.size w W/\Bx W K0 #[.int .i64 c,.string (mk x),.int .i64 z] 45/\Bx W K1 zT 24/\Bx W K2 #[.int .i64 0,.int .i64 0] 33/\W.heap.size<=W.heap.size):=⟨HN.out.1,HN.out.2.1,HN.out.2.2.1,HN.out.2.2.2,Nat.le_refl _⟩;clear HN;obtain⟨r0,r1,r2⟩:=HS.out.2.1.c3
 have HKC:Hid (Calls Tryz.prog 35 #[rV c x z,.slice a len cap,.func (.func 36) #[.int .i64 (ar+1)] #[]] W fun e w'=>∃ sa sl sc,e=.returned (.tuple #[.slice sa sl sc,.agg #[.int .i64 q.2.1,.int .i64 q.2.2]])/\Hid (Below W.heap.size W w'/\TrP W.heap.size w' (d+1) (.agg #[.int .i64 5,.string ⟨#[]⟩,.string ⟨#[]⟩,.slice sa sl sc]) ⟨5,[],[],q.1⟩)):=by
  refine(HKI.out W HS.out.1).mono (fun e w' h=> ?_);by_cases hq:q.2.1=0
  ·obtain⟨v,n,xs,h1,h2,h3,h4⟩:=h.2.1 hq;obtain⟨ad,ln,cp,rfl,h5⟩:=TrP.node h2 h4 h3 5 (by decide) [] (by decide);exact⟨ad,ln,cp,h1,h.2.2,h5⟩
  ·rw[hq0 hq];exact⟨none,0,0,h.1 hq,h.2.2,TrP.leaf 5 [] [] (by decide) (by decide) (by decide) d⟩
 clear HKI;obtain⟨q1,qy,qz⟩:=q;go_wp2_with fail;refine HKC.out.mono ?_;rintro e w5 ⟨sa,sl,sc,rfl,H5⟩
 have H6:Hid (∀ w6,w6=w5.alloc (.cells #[.int .i64 qy,.int .i64 qz] 33)->Below w.heap.size w w6/\Bx w6 K1 zT 24/\Bx w6 K2 #[.int .i64 0,.int .i64 0] 33/\Bx w6 w5.heap.size #[.int .i64 qy,.int .i64 qz] 33/\K2<w5.heap.size/\TrP W.heap.size w6 (d+1) (.agg #[.int .i64 5,.string ⟨#[]⟩,.string ⟨#[]⟩,.slice sa sl sc]) ⟨5,[],[],q1⟩):=fun w6 e=>by
  subst e;have b1:=below_alloc w5 (.cells #[.int .i64 qy,.int .i64 qz] 33);have b:=H5.out.1.trans (b1.mono H5.out.1.size);exact⟨HS.out.1.trans (b.mono HS.out.1.size),HS.out.2.2.1.later b,HS.out.2.2.2.1.later b,Bx.new _ _ _,Nat.lt_of_lt_of_le HS.out.2.2.2.1.lt H5.out.1.size,TrP.mono HS.out.2.2.2.2 (H5.out.2.later b1)⟩
 clear H5 HS r0 r1 r2 HKC;go_upto_region 6 with fail
 have N6:=H6.out _ rfl;clear H6;generalize w5.alloc (.cells #[.int .i64 qy,.int .i64 qz] 33)=w6 at N6 |-;generalize w5.heap.size=KF at N6 |-;have HS:Hid (_/\_/\_/\_/\_/\_):=N6;clear N6;obtain⟨i0,i1⟩:=HS.out.2.2.2.1.c2;obtain⟨d0,d1,d2,d3,d4,d5,z0,z1,z2,z3,z4,z5⟩:=c6_of HS.out.2.1 HS.out.2.2.1;have hq5:K2<KF:=HS.out.2.2.2.2.1;have hn1:K1≠KF:=by omega
 have hn2:K2≠KF:=by omega
 have hn3:KF≠K1:=by omega
 have hn4:KF≠K2:=by omega
 have hq1:K1<W.heap.size:=by omega
 have HF:Hid (_/\_/\_):=fill6_is HS.out.2.1 HS.out.2.2.1 hn12 HS.out.1 (by omega) (by omega) (.int .i64 5) (.string ⟨#[]⟩) (.string ⟨#[]⟩) (.slice sa sl sc) (.int .i64 qy) (.int .i64 qz)
 have HTF:Hid (TrP w.heap.size (fill6 w6 K1 K2 (.int .i64 5) (.string ⟨#[]⟩) (.string ⟨#[]⟩) (.slice sa sl sc) (.int .i64 qy) (.int .i64 qz)) (d+1) (.agg #[.int .i64 5,.string ⟨#[]⟩,.string ⟨#[]⟩,.slice sa sl sc]) ⟨5,[],[],q1⟩) :=
  TrP.mono (c:=W.heap.size) (by omega) ((((((HS.out.2.2.2.2.2.set hq1).set hq1).set hq1).set hq1).set hK2W).set hK2W)
 clear HS;go_region
 all_goals
  go_wp2;change bodyPost _ _ _ _ _ (fill6 w6 K1 K2 (.int .i64 5) (.string ⟨#[]⟩) (.string ⟨#[]⟩) (.slice sa sl sc) (.int .i64 qy) (.int .i64 qz)).drew;generalize fill6 w6 K1 K2 (.int .i64 5) (.string ⟨#[]⟩) (.string ⟨#[]⟩) (.slice sa sl sc) (.int .i64 qy) (.int .i64 qz)=WF at HF HTF |-;have j0:WF.drew.cell? ⟨K1,0,none⟩=_:=HF.out.2.1.cell 0;have j1:WF.drew.cell? ⟨K1,1,none⟩=_:=HF.out.2.1.cell 1;have j2:WF.drew.cell? ⟨K1,2,none⟩=_:=HF.out.2.1.cell 2;have j3:WF.drew.cell? ⟨K1,3,none⟩=_:=HF.out.2.1.cell 3;have j4:WF.drew.cell? ⟨K2,0,none⟩=_:=HF.out.2.2.cell 0;have j5:WF.drew.cell? ⟨K2,1,none⟩=_:=HF.out.2.2.cell 1;refine bodyPost_ret (v:=.tuple #[.agg #[.int .i64 5,.string ⟨#[]⟩,.string ⟨#[]⟩,.slice sa sl sc],.agg #[.int .i64 qy,.int .i64 qz]]) (by simp[results,Tryz.results19,go_sem,j0,j1,j2,j3,j4,j5]) rfl ?_;exact⟨_,rfl,HTF.out.later (Below.refl _ _).drew,HF.out.1.drew⟩
theorem value_map (d:Nat) (ar:Int) (c:Int) (x:Ln) (z:Int) (a:Option Addr) (len cap:Nat) (w:World) (hx:x.length<=140737488351232) (hT:Tb w) (har:ar≠64) (hb1:0<=ar) (hb2:ar<=64) (hi:isIt x=false) (he:isEn x=true) (q:List Tr × Int × Int) (hq0:q.2.1≠0->q.1=[])
  (HKI:Hid (∀ w0,Below w.heap.size w w0->Calls Tryz.prog 35 #[rV c x z,.slice a len cap,.func (.func 38) #[.int .i64 (ar+1)] #[]] w0 fun e w'=>KiRes d q w0 e w')) :
  Calls Tryz.prog 19 #[.int .i64 ar,rV c x z,.slice a len cap] w fun e w'=>TfD (d+1) (⟨6,[],[],q.1⟩,q.2) w e w':=by
 have HII:Hid (∀ w0,Calls Tryz.prog 34 #[.string (mk x)] w0 fun e w'=>e=.returned (.bool false)/\w0=w'):=fun w0=>by
  have h:=isItem_any x w0 (by omega);rw[hi]at h;exact h
 have HIE:Hid (∀ w0,Tb w0->Calls Tryz.prog 37 #[.string (mk x)] w0 fun e w'=>e=.returned (.bool true)/\Below w0.heap.size w0 w'):=fun w0 ht=>by
  have h:=isEntry_any x w0 (by omega) ht;rw[he]at h;exact h
 have HTb:Hid (Tb w):=hT;have harb:(ar==64)=false:=by rw[beq_eq_false_iff_ne];exact har
 clear hT hi he har;have N3:Hid (_/\_/\_/\_):=three_new w #[.int .i64 c,.string (mk x),.int .i64 z] zT #[.int .i64 0,.int .i64 0] 45 24 33;go_enter Tryz.func19,Tryz.ntmps19;go_wp2_with fail;change Calls _ _ _ (((w.alloc (.cells #[.int .i64 c,.string (mk x),.int .i64 z] 45)).alloc (.cells zT 24)).alloc (.cells #[.int .i64 0,.int .i64 0] 33)) _;generalize ((w.alloc (.cells #[.int .i64 c,.string (mk x),.int .i64 z] 45)).alloc (.cells zT 24)).alloc (.cells #[.int .i64 0,.int .i64 0] 33)=W at N3 |-;obtain⟨K2,hK2⟩:∃ K,K=w.heap.size+1+1:=⟨_,rfl⟩;obtain⟨K1,hK1⟩:∃ K,K=w.heap.size+1:=⟨_,rfl⟩;obtain⟨K0,hK0⟩:∃ K,K=w.heap.size:=⟨_,rfl⟩
 have HN:Hid (Below w.heap.size w W/\Bx W K0 #[.int .i64 c,.string (mk x),.int .i64 z] 45/\Bx W K1 zT 24/\Bx W K2 #[.int .i64 0,.int .i64 0] 33):=by
  rw[hK0,hK1,hK2];exact N3.out
 rw[<-hK2,<-hK1,<-hK0];have hwW:w.heap.size<=K0/\K0<K1/\K1<K2:=by omega
 have hK2W:K2<W.heap.size:=HN.out.2.2.2.lt;have hn12:K1≠K2:=by omega
 have hn21:K2≠K1:=by omega
 clear N3 hK0 hK1 hK2;refine(HII.out _).mono ?_;rintro e w' ⟨rfl,rfl⟩;obtain⟨r0,r1,r2⟩:=HN.out.2.1.c3;go_wp2_with fail;refine(HIE.out _ (HTb.out.later HN.out.1)).mono ?_;rintro e w4 ⟨rfl,H4⟩;have HS:Hid (Below w.heap.size w w4/\Bx w4 K0 #[.int .i64 c,.string (mk x),.int .i64 z] 45/\Bx w4 K1 zT 24/\Bx w4 K2 #[.int .i64 0,.int .i64 0] 33/\W.heap.size<=w4.heap.size):=⟨HN.out.1.trans (H4.mono HN.out.1.size),HN.out.2.1.later H4,HN.out.2.2.1.later H4,HN.out.2.2.2.later H4,H4.size⟩;clear HN H4 r0 r1 r2;obtain⟨r0,r1,r2⟩:=HS.out.2.1.c3
 have HKC:Hid (Calls Tryz.prog 35 #[rV c x z,.slice a len cap,.func (.func 38) #[.int .i64 (ar+1)] #[]] w4 fun e w'=>∃ sa sl sc,e=.returned (.tuple #[.slice sa sl sc,.agg #[.int .i64 q.2.1,.int .i64 q.2.2]])/\Hid (Below w4.heap.size w4 w'/\TrP w4.heap.size w' (d+1) (.agg #[.int .i64 6,.string ⟨#[]⟩,.string ⟨#[]⟩,.slice sa sl sc]) ⟨6,[],[],q.1⟩)):=by
  refine(HKI.out w4 HS.out.1).mono (fun e w' h=> ?_);by_cases hq:q.2.1=0
  ·obtain⟨v,n,xs,h1,h2,h3,h4⟩:=h.2.1 hq;obtain⟨ad,ln,cp,rfl,h5⟩:=TrP.node h2 h4 h3 6 (by decide) [] (by decide);exact⟨ad,ln,cp,h1,h.2.2,h5⟩
  ·rw[hq0 hq];exact⟨none,0,0,h.1 hq,h.2.2,TrP.leaf 6 [] [] (by decide) (by decide) (by decide) d⟩
 clear HKI;obtain⟨q1,qy,qz⟩:=q;go_wp2_with fail;refine HKC.out.mono ?_;rintro e w5 ⟨sa,sl,sc,rfl,H5⟩
 have H6:Hid (∀ w6,w6=w5.alloc (.cells #[.int .i64 qy,.int .i64 qz] 33)->Below w.heap.size w w6/\Bx w6 K1 zT 24/\Bx w6 K2 #[.int .i64 0,.int .i64 0] 33/\Bx w6 w5.heap.size #[.int .i64 qy,.int .i64 qz] 33/\K2<w5.heap.size/\TrP W.heap.size w6 (d+1) (.agg #[.int .i64 6,.string ⟨#[]⟩,.string ⟨#[]⟩,.slice sa sl sc]) ⟨6,[],[],q1⟩):=fun w6 e=>by
  subst e;have b1:=below_alloc w5 (.cells #[.int .i64 qy,.int .i64 qz] 33);have b:=H5.out.1.trans (b1.mono H5.out.1.size);exact⟨HS.out.1.trans (b.mono HS.out.1.size),HS.out.2.2.1.later b,HS.out.2.2.2.1.later b,Bx.new _ _ _,Nat.lt_of_lt_of_le HS.out.2.2.2.1.lt H5.out.1.size,TrP.mono HS.out.2.2.2.2 (H5.out.2.later b1)⟩
 clear H5 HS r0 r1 r2 HKC;go_upto_region 9 with fail
 have N6:=H6.out _ rfl;clear H6;generalize w5.alloc (.cells #[.int .i64 qy,.int .i64 qz] 33)=w6 at N6 |-;generalize w5.heap.size=KF at N6 |-;have HS:Hid (_/\_/\_/\_/\_/\_):=N6;clear N6;obtain⟨i0,i1⟩:=HS.out.2.2.2.1.c2;obtain⟨d0,d1,d2,d3,d4,d5,z0,z1,z2,z3,z4,z5⟩:=c6_of HS.out.2.1 HS.out.2.2.1;have hq5:K2<KF:=HS.out.2.2.2.2.1;have hn1:K1≠KF:=by omega
 have hn2:K2≠KF:=by omega
 have hn3:KF≠K1:=by omega
 have hn4:KF≠K2:=by omega
 have hq1:K1<W.heap.size:=by omega
 have HF:Hid (_/\_/\_):=fill6_is HS.out.2.1 HS.out.2.2.1 hn12 HS.out.1 (by omega) (by omega) (.int .i64 6) (.string ⟨#[]⟩) (.string ⟨#[]⟩) (.slice sa sl sc) (.int .i64 qy) (.int .i64 qz)
 have HTF:Hid (TrP w.heap.size (fill6 w6 K1 K2 (.int .i64 6) (.string ⟨#[]⟩) (.string ⟨#[]⟩) (.slice sa sl sc) (.int .i64 qy) (.int .i64 qz)) (d+1) (.agg #[.int .i64 6,.string ⟨#[]⟩,.string ⟨#[]⟩,.slice sa sl sc]) ⟨6,[],[],q1⟩) :=
  TrP.mono (c:=W.heap.size) (by omega) ((((((HS.out.2.2.2.2.2.set hq1).set hq1).set hq1).set hq1).set hK2W).set hK2W)
 clear HS;go_region
 all_goals
  go_wp2;change bodyPost _ _ _ _ _ (fill6 w6 K1 K2 (.int .i64 6) (.string ⟨#[]⟩) (.string ⟨#[]⟩) (.slice sa sl sc) (.int .i64 qy) (.int .i64 qz)).drew;generalize fill6 w6 K1 K2 (.int .i64 6) (.string ⟨#[]⟩) (.string ⟨#[]⟩) (.slice sa sl sc) (.int .i64 qy) (.int .i64 qz)=WF at HF HTF |-;have j0:WF.drew.cell? ⟨K1,0,none⟩=_:=HF.out.2.1.cell 0;have j1:WF.drew.cell? ⟨K1,1,none⟩=_:=HF.out.2.1.cell 1;have j2:WF.drew.cell? ⟨K1,2,none⟩=_:=HF.out.2.1.cell 2;have j3:WF.drew.cell? ⟨K1,3,none⟩=_:=HF.out.2.1.cell 3;have j4:WF.drew.cell? ⟨K2,0,none⟩=_:=HF.out.2.2.cell 0;have j5:WF.drew.cell? ⟨K2,1,none⟩=_:=HF.out.2.2.cell 1;refine bodyPost_ret (v:=.tuple #[.agg #[.int .i64 6,.string ⟨#[]⟩,.string ⟨#[]⟩,.slice sa sl sc],.agg #[.int .i64 qy,.int .i64 qz]]) (by simp[results,Tryz.results19,go_sem,j0,j1,j2,j3,j4,j5]) rfl ?_;exact⟨_,rfl,HTF.out.later (Below.refl _ _).drew,HF.out.1.drew⟩
end Tre
end Go.Proofs.YtidhpmcmbooaoaaGreatDoor
