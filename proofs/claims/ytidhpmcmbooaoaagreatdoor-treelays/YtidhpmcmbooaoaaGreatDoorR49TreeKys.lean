/- . -/
import Derived.Test.YtidhpmcmbooaoaaGreatDoorR44QuotePut
import Derived.Test.YtidhpmcmbooaoaaGreatDoorR38FlowAllow
import Derived.Deep.RegionWith
import Derived.Test.YtidhpmcmbooaoaaGreatDoorR47TreeLay
set_option linter.unusedSimpArgs false
set_option linter.unusedVariables false
set_option maxRecDepth 100000
namespace Go.Proofs.YtidhpmcmbooaoaaGreatDoor
namespace Tre
open Utf Rws Pln Flw
open Go.RowKit
set_option maxHeartbeats 4000000
def kyX (mp:Bool) (i:Nat) (k:Tr):Bool:=mp && i % 2==0 && (decide (256<k.text.length) || (decide (k.kind=4) && k.text==[]))
theorem kyL_cons (mp:Bool) (f:Tr->Bool) (i:Nat) (k:Tr) (ks:List Tr):kyL mp f i (k::ks)=(!(kyX mp i k) && f k && kyL mp f (i+1) ks):=rfl
theorem kyL_at (mp:Bool) (f:Tr->Bool) {j:Nat} {ks:List Tr} (h:j<ks.length):kyL mp f j (ks.drop j)=(!(kyX mp j (ks.getD j tr0)) && f (ks.getD j tr0) && kyL mp f (j+1) (ks.drop (j+1))):=by
 rw[List.getD_eq_getElem?_getD,List.getElem?_eq_getElem h,Option.getD_some,<-kyL_cons,List.getElem_cons_drop]
theorem keys_core (k:Int) (s a:ByteArray) (ad:Option Addr) (len cap:Nat) (W w:World) (deep d:Nat) (ks:List Tr) (hl:len<=9223372036854775807)
  (HK:Hid (KAt W d ad len ks)) (HBW:Hid (Below W.heap.size W w)) (hd:deep<=5000)
  (HI:Hid (∀ j v w,j<ks.length->TrV W d v (ks.getD j tr0)->Below W.heap.size W w->Calls Tryz.prog 12 #[v,.int .i64 ((deep:Int)+1)] w fun e w'=>e=.returned (.bool (kyB d (ks.getD j tr0) (deep+1)))/\Hid (Below w.heap.size w w'))) (Z:Bool)
  (HZ:Hid (Z=(kyL (decide (k=6)) (fun k=>kyB d k (deep+1)) 0 ks && decide (deep<20)))) :
  Calls Tryz.prog 12 #[.agg #[.int .i64 k,.string s,.string a,.slice ad len cap],.int .i64 (deep:Int)] w fun e w'=>e=.returned (.bool Z)/\Hid (Below w.heap.size w w'):=by
 have HW1:Hid (Below w.heap.size w (w.alloc (.cells #[.int .i64 k,.string s,.string a,.slice ad len cap] 24))):=below_alloc w _;have HX:Hid (Bx (w.alloc (.cells #[.int .i64 k,.string s,.string a,.slice ad len cap] 24)) w.heap.size #[.int .i64 k,.string s,.string a,.slice ad len cap] 24):=Bx.new _ _ _;go_enter Tryz.func12,Tryz.ntmps12;go_wp2;generalize w.alloc (.cells #[.int .i64 k,.string s,.string a,.slice ad len cap] 24)=W1 at HW1 HX |-;obtain⟨K,HKE⟩:∃ K,Hid (K=w.heap.size):=⟨_,rfl⟩;rw[<-HKE.out]at HX |-
 go_loopw [10] (fun i wr=>∃ j:Nat,j<=len/\i=.int .i64 j/\Hid (Below W1.heap.size W1 wr/\Z=(kyL (decide (k=6)) (fun k=>kyB d k (deep+1)) j (ks.drop j) && decide (deep<20)))) (fun i _=>len-(intOf i).toNat)
 case atStart=>exact⟨0,Nat.zero_le _,rfl,Below.refl _ _,HZ.out⟩
 case round =>
  obtain⟨j,hj,rfl,HR⟩:=hrel;have HBw:Hid (Below w.heap.size w wr):=HW1.out.trans (HR.out.1.mono HW1.out.size);by_cases hlt:j<len
  ·have k0:wr.cell? ⟨K,0,none⟩=some (.int .i64 k):=(HX.out.later HR.out.1).cell 0;have hKw:K<wr.heap.size:=(HX.out.later HR.out.1).lt;obtain⟨b,off,rfl,hb,hcell⟩:=HK.out.2 (by omega);obtain⟨c0,c1,c2,c3,x0,x1,x2,x3,hx⟩:=hcell j hlt;have HBr:Hid (Below W.heap.size W wr):=HBW.out.trans (HBw.out.mono HBW.out.size);replace x0:=(HBr.out.cell (p:=⟨b,off+j*4,none⟩) hb).trans x0;replace x1:=(HBr.out.cell (p:=⟨b,off+j*4+1,none⟩) hb).trans x1;replace x2:=(HBr.out.cell (p:=⟨b,off+j*4+2,none⟩) hb).trans x2;replace x3:=(HBr.out.cell (p:=⟨b,off+j*4+3,none⟩) hb).trans x3;have HV:Hid (TrV W d (.agg #[c0,c1,c2,c3]) (ks.getD j tr0)):=hx;obtain⟨ad',len',cap',e0,e1,e2,e3⟩:=hx.four;subst e0 e1 e2 e3;have HJ:Hid (j<ks.length):=by have:=HK.out.1;show j<ks.length;omega
   have HZ2:Hid (Z=((!(kyX (decide (k=6)) j (ks.getD j tr0)) && kyB d (ks.getD j tr0) (deep+1) && kyL (decide (k=6)) (fun k=>kyB d k (deep+1)) (j+1) (ks.drop (j+1))) && decide (deep<20))):=by
    have:=HR.out.2;rw[kyL_at _ _ HJ.out]at this;exact this
   have HBn:Hid (∀ c t,Below W1.heap.size W1 (wr.alloc (.cells c t))/\Below w.heap.size w (wr.alloc (.cells c t))/\Below W.heap.size W (wr.alloc (.cells c t))):=fun c t=>⟨HR.out.1.alloc HR.out.1.size _,HBw.out.alloc HBw.out.size _,HBr.out.alloc HBr.out.size _⟩
   have HC:Hid (∀ w,Below W.heap.size W w->Calls Tryz.prog 12 #[.agg #[.int .i64 (ks.getD j tr0).kind,.string (mk (ks.getD j tr0).text),.string (mk (ks.getD j tr0).anc),.slice ad' len' cap'],.int .i64 ((deep:Int)+1)] w fun e w'=>e=.returned (.bool (kyB d (ks.getD j tr0) (deep+1)))/\Hid (Below w.heap.size w w')):=fun w hw=>HI.out j _ w HJ.out HV.out hw
   have hsz:(mk (ks.getD j tr0).text).size=(ks.getD j tr0).text.length:=mk_size _;have h4:((ks.getD j tr0).kind==4)=decide ((ks.getD j tr0).kind=4):=rfl;have he:((mk (ks.getD j tr0).text).toList==[])=((ks.getD j tr0).text==[]):=by rw[ByteArray.toList_eq,mk_data]
   have HXX:Hid (kyX (decide (k=6)) j (ks.getD j tr0)=(decide (k=6) && j % 2==0 && (decide (256<(ks.getD j tr0).text.length) || (decide ((ks.getD j tr0).kind=4) && (ks.getD j tr0).text==[])))):=rfl;generalize ks.getD j tr0=kid at HV HZ2 HC x0 x1 x2 x3 hsz h4 he HXX;generalize kyB d kid (deep+1)=q at HZ2 HC;generalize kyX (decide (k=6)) j kid=X at HZ2 HXX;obtain⟨L,HL⟩:∃ L,Hid (L=kyL (decide (k=6)) (fun k=>kyB d k (deep+1)) (j+1) (ks.drop (j+1))):=⟨_,rfl⟩;rw[<-HL.out]at HZ2;obtain⟨D,HD⟩:∃ D,Hid (D=decide (deep<20)):=⟨_,rfl⟩;rw[<-HD.out]at HZ2;generalize mk kid.text=sx at x1 hsz he HC;generalize mk kid.anc=sa at x2 HC;generalize kid.text.length=n at hsz HXX;have e6:(k==6)=decide (k=6):=rfl;obtain⟨mp,hmp⟩:∃ mp,decide (k=6)=mp:=⟨_,rfl⟩;obtain⟨b4,hb4⟩:∃ mp,decide (kid.kind=4)=mp:=⟨_,rfl⟩;obtain⟨be,hbe⟩:∃ mp,(kid.text==[])=mp:=⟨_,rfl⟩;rw[hmp]at e6 HXX;rw[hb4]at h4 HXX;rw[hbe]at he HXX;generalize kid.kind=kk at x0 h4 HC;clear hcell hx HV HK HI HZ hmp hb4 hbe;go_wp2_with fail
   all_goals first
    | (go_ret
       refine⟨?_,(HBn.out _ _).2.1⟩
       have hX:X=true:=by
        rw[HXX.out];cases mp<;>cases b4<;>cases be<;>by_cases g1:j % 2=0<;>by_cases g2:256<n<;>first | contradiction | (exfalso;omega) | simp[g1,g2]
       rw[HZ2.out,hX];rfl)
    | (have hX:X=false:=by
        rw[HXX.out];cases mp<;>cases b4<;>cases be<;>by_cases g1:j % 2=0<;>by_cases g2:256<n<;>first | contradiction | (exfalso;omega) | simp[g1,g2]
       have HZ3:Hid (Z=((q && L) && D)):=by
        have:=HZ2.out;rw[hX]at this;show Z=((q && L) && D);simpa using this
       clear hX HZ2 HXX;refine(HC.out _ (HBn.out _ _).2.2).mono ?_;rintro e w2 ⟨rfl,H2⟩;have H3:Hid (Below W1.heap.size W1 w2/\Below w.heap.size w w2):=⟨(HBn.out _ _).1.trans (H2.out.mono (HBn.out _ _).1.size),(HBn.out _ _).2.1.trans (H2.out.mono (HBn.out _ _).2.1.size)⟩
       cases q with
       | true =>
        clear H2 HC HBn HR HBw HBr;go_wp2_with fail;go_roundw
        case rel=>exact⟨j+1,by omega,by go_num,H3.out.1,by rw[HZ3.out,Bool.true_and,HL.out,HD.out]⟩
        case measure=>(simp[intOf]<;>omega)
       | false =>
        clear H2 HC HBn HR HBw HBr;go_wp2_with fail;go_ret;refine⟨?_,H3.out.2⟩;rw[HZ3.out];rfl)
  ·have HE:Hid (Z=decide (deep<20)):=by
    have:=HR.out.2;rw[List.drop_eq_nil_of_le (by have:=HK.out.1;omega)]at this;show Z=decide (deep<20);simpa [kyL]using this
   have hDD:decide ((deep:Int)<20)=decide (deep<20):=decide_eq_decide.2 (by omega);clear HR HZ HI;go_wp2_with fail
   all_goals
    go_ret;refine⟨?_,HBw.out⟩;rw[HE.out]
    first | rfl | exact congrArg _ (congrArg _ hDD) | (simp;omega)
theorem keys_any:∀ (d:Nat) (v:Value) (t:Tr) (W w:World) (deep:Nat),TrV W d v t->Below W.heap.size W w->deep+cntT d t<=5000 ->
  Calls Tryz.prog 12 #[v,.int .i64 (deep:Int)] w fun e w'=>e=.returned (.bool (kyB d t deep))/\Hid (Below w.heap.size w w')
 | 0,v,t,W,w,deep,h,_,_=>h.elim
 | d+1,v,t,W,w,deep,h,hb,hn=>by
  obtain⟨ad,len,cap,rfl,hl,hcp,hm,hz,hk⟩:=h;have m1:maxLen=9223372036854775807:=rfl;refine keys_core t.kind (mk t.text) (mk t.anc) ad len cap W w deep d t.kids (by omega) ⟨hl,hk⟩ hb (by omega) ?_ _ rfl;intro j v' w' hj h1 h2
  have hm':t.kids.getD j tr0∈t.kids:=by
   rw[List.getD_eq_getElem?_getD,List.getElem?_eq_getElem hj,Option.getD_some];exact List.getElem_mem hj
  have hc:=cnt_mem (d:=d) hm';have:=keys_any d v' _ W w' (deep+1) h1 h2 (by omega)
  rwa [show ((deep+1:Nat):Int)=(deep:Int)+1 by omega]at this
end Tre
namespace Tre
open Utf Rws Pln Flw
open Go.RowKit
open Blk (Rw RwAt z3 StrsAt rC rowV rowV_app rowV_len rw_own cell_three row_one)
set_option maxHeartbeats 4000000
def nmb (j:Nat) (L:List (Int × Ln)):List Rw:=nrw 1 (L.take j)++zr (L.drop j)
theorem nmb_all (L:List (Int × Ln)):nmb L.length L=nrw 1 L:=by
 unfold nmb;rw[List.take_length,List.drop_length];simp[zr]
theorem rowV_set (A B:List Rw) (c z z':Int) (x:Ln):(rowV (A++(c,x,z)::B)).set (A.length*3+2) (.int .i64 z')=rowV (A++(c,x,z')::B):=by
 rw[rowV_app,rowV_app,List.set_append_right _ _ (by rw[rowV_len];omega),rowV_len,Nat.add_sub_cancel_left];rfl
theorem nmb_set {j:Nat} {L:List (Int × Ln)} (h:j<L.length):(rowV (nmb j L)).set (j*3+2) (.int .i64 ((j:Int)+1))=rowV (nmb (j+1) L)/\(rowV (nmb j L))[j*3+2]?=some (.int .i64 0):=by
 have e1:nmb j L=nrw 1 (L.take j)++((L[j]'h).1,(L[j]'h).2,0)::zr (L.drop (j+1)):=by
  unfold nmb;rw[List.drop_eq_getElem_cons h];rfl
 have e2:nmb (j+1) L=nrw 1 (L.take j)++((L[j]'h).1,(L[j]'h).2,(j:Int)+1)::zr (L.drop (j+1)):=by
  unfold nmb;rw[List.take_succ_eq_append_getElem h,nrw_app,List.append_assoc];congr 1;rw[nrw,nrw,List.length_take,Nat.min_eq_left (by omega)];simp;omega
 have hl:(nrw 1 (L.take j)).length=j:=by rw[nrw_len,List.length_take];omega
 rw[e1,e2];have:=rowV_set (nrw 1 (L.take j)) (zr (L.drop (j+1))) (L[j]'h).1 0 ((j:Int)+1) (L[j]'h).2;rw[hl]at this;refine⟨this,?_⟩;rw[rowV_app,List.getElem?_append_right (by rw[rowV_len,hl];omega),rowV_len,hl,Nat.add_sub_cancel_left];rfl
theorem row_set {base:Nat} {e:TypeId} {size g n cap:Nat} {xs:List Value} {w:World} (h:w.ownsRow base e size (.slice (some ⟨g,0,none⟩) n cap) n xs) {i:Nat} (hi:i<xs.length) (v:Value):(w.setCell ⟨g,i,none⟩ v).ownsRow base e size (.slice (some ⟨g,0,none⟩) n cap) n (xs.set i v):=by
 refine⟨by rw[List.length_set];exact h.1,?_⟩;rcases h.2 with ⟨h2,_⟩ | ⟨g',cap',cur,he,hb,hg,h3,h4,h5,h6⟩
 ·cases h2
 ·cases he;have hset:=Bx.set (w:=w) (k:=g) (cs:=cur) (t:=e) hg i v;refine .inr ⟨g,cap,cur.setIfInBounds i v,rfl,hb,hset,h3,h4,by rw[Array.size_setIfInBounds];exact h5,?_⟩;rw[<-h6];have hl:i<n*size:=by rw[<-h.1];exact hi
  rw[Array.toList_setIfInBounds,List.take_set]
theorem row_cell {base:Nat} {e:TypeId} {size g n cap:Nat} {xs:List Value} {w:World} (h:w.ownsRow base e size (.slice (some ⟨g,0,none⟩) n cap) n xs) {i:Nat} {v:Value} (hi:xs[i]?=some v):w.cell? ⟨g,i,none⟩=some v/\w.frozen? ⟨g,i,none⟩=false/\base<=g/\n<=cap/\cap<=maxLen:=by
 rcases h.2 with ⟨h2,_⟩ | ⟨g',cap',cur,he,hb,hg,h3,h4,h5,h6⟩
 ·cases h2
 ·cases he;refine⟨?_,Lib.frozen_of_heap hg i,hb,h3,h4⟩;rw[Lib.cell_of_heap hg]
  have hl:i<n*size:=by
   rw[<-h.1];exact(List.getElem?_eq_some_iff.1 hi).1
  rw[<-h6,List.getElem?_take,if_pos hl]at hi;simpa using hi
theorem laid_core (k:Int) (x a:ByteArray) (ad:Option Addr) (len cap:Nat) (w:World) (R KY:Bool) (L:List (Int × Ln)) (hL0:R=true->KY=true->0<L.length) (hLm:L.length<=1000000)
  (HR:Hid (∀ w1,Below w.heap.size w w1->Calls Tryz.prog 11 #[.agg #[.int .i64 k,.string x,.string a,.slice ad len cap]] w1 fun e w'=>e=.returned (.bool R)/\Hid (Below w1.heap.size w1 w')))
  (HKy:Hid (∀ w1,Below w.heap.size w w1->Calls Tryz.prog 12 #[.agg #[.int .i64 k,.string x,.string a,.slice ad len cap],.int .i64 0] w1 fun e w'=>e=.returned (.bool KY)/\Hid (Below w1.heap.size w1 w')))
  (HLy:Hid (∀ w1,R=true->KY=true->Below w.heap.size w w1->Calls Tryz.prog 13 #[.agg #[.int .i64 k,.string x,.string a,.slice ad len cap],.int .i64 0,.slice none 0 0] w1 fun e w'=>∃ v',e=.returned v'/\Hid (Lo w w' v' L)))
  (Q:Value->Bool->World->Prop) (HNo:Hid (∀ w',(R && KY)=false->Below w.heap.size w w'->Q (.slice none 0 0) false w'))
  (HYes:Hid (∀ g cap w',(R && KY)=true->Below w.heap.size w w'->w'.ownsRow w.heap.size 45 3 (.slice (some ⟨g,0,none⟩) L.length cap) L.length (rowV (nrw 1 L))->Q (.slice (some ⟨g,0,none⟩) L.length cap) true w')) :
  Calls Tryz.prog 6 #[.agg #[.int .i64 k,.string x,.string a,.slice ad len cap]] w fun e w'=>∃ v b,e=.returned (.tuple #[v,.bool b])/\Q v b w':=by
 have HX:Hid (Bx (w.alloc (.cells #[.int .i64 k,.string x,.string a,.slice ad len cap] 24)) w.heap.size #[.int .i64 k,.string x,.string a,.slice ad len cap] 24):=Bx.new _ _ _;have HB1:Hid (Below w.heap.size w (w.alloc (.cells #[.int .i64 k,.string x,.string a,.slice ad len cap] 24))):=below_alloc w _;go_enter Tryz.func6,Tryz.ntmps6;go_upto_region 1 with fail
 generalize w.alloc (.cells #[.int .i64 k,.string x,.string a,.slice ad len cap] 24)=W1 at HB1 HX |-;obtain⟨K,HKE⟩:∃ K,Hid (K=w.heap.size):=⟨_,rfl⟩;rw[<-HKE.out]at HX |-;obtain⟨k0,k1,k2,k3⟩:=HX.out.c4;go_wp2_with fail;refine(HR.out W1 HB1.out).mono ?_;rintro e w2 ⟨rfl,H2⟩;have HB2:Hid (Below w.heap.size w w2):=HB1.out.trans (H2.out.mono HB1.out.size);have HX2:Hid (Bx w2 K #[.int .i64 k,.string x,.string a,.slice ad len cap] 24):=HX.out.later H2.out;clear k0 k1 k2 k3 H2 HX HB1 HR
 cases R with
 | false =>
  clear HKy HLy HYes;go_wp2_with fail;go_ret2;exact⟨_,_,rfl,HNo.out _ rfl HB2.out⟩
 | true =>
  obtain⟨k0,k1,k2,k3⟩:=HX2.out.c4;go_wp2_with fail;refine(HKy.out w2 HB2.out).mono ?_;rintro e w3 ⟨rfl,H3⟩;have HB3:Hid (Below w.heap.size w w3):=HB2.out.trans (H3.out.mono HB2.out.size);have HX3:Hid (Bx w3 K #[.int .i64 k,.string x,.string a,.slice ad len cap] 24):=HX2.out.later H3.out;clear k0 k1 k2 k3 H3 HX2 HB2 HKy
  cases KY with
  | false =>
   clear HLy HYes;go_wp2_with fail;go_ret2;exact⟨_,_,rfl,HNo.out _ rfl HB3.out⟩
  | true =>
   obtain⟨k0,k1,k2,k3⟩:=HX3.out.c4;go_wp2_with fail;refine(HLy.out w3 (by first | rfl | trivial) (by first | rfl | trivial) HB3.out).mono ?_;rintro e w4 ⟨v4,rfl,H4⟩;replace hL0:0<L.length:=hL0 (by first | rfl | trivial) (by first | rfl | trivial)
   obtain⟨g,cap4,hv4⟩:∃ g cap4,v4=.slice (some ⟨g,0,none⟩) L.length cap4:=by
    rcases H4.out.2.2 with ⟨_,h0⟩ | ⟨g,cap4,_,e,_⟩
    ·omega
    ·exact⟨g,cap4,e⟩
   subst hv4
   have HF4:Hid (Below w.heap.size w w4/\w4.ownsRow w.heap.size 45 3 (.slice (some ⟨g,0,none⟩) L.length cap4) L.length (rowV (nmb 0 L))):=⟨H4.out.1,by
    have:=H4.out.2
    rwa [show nmb 0 L=zr L from by unfold nmb;rfl]⟩
   obtain⟨n,HN⟩:∃ n,Hid (n=L.length):=⟨_,rfl⟩;rw[<-HN.out]at HF4 hLm hL0 HYes |-;clear k0 k1 k2 k3 H4 HX3 HB3 HLy HNo;go_wp2_with fail
   go_loopw [18] (fun u18 wr=>∃ j:Nat,j<=n/\u18=.int .i64 (j:Int)/\Hid (Below w.heap.size w wr/\wr.ownsRow w.heap.size 45 3 (.slice (some ⟨g,0,none⟩) n cap4) n (rowV (nmb j L)))) (fun u18 _=>n-(intOf u18).toNat)
   case atStart=>exact⟨0,Nat.zero_le _,rfl,HF4⟩
   case round =>
    obtain⟨j,hj,rfl,HR⟩:=hrel;clear HF4;by_cases hlt:j<n
    ·have HS:=nmb_set (L:=L) (j:=j) (by have:=HN.out;omega);obtain⟨c2,f2,hbg,hnc,hcm⟩:=row_cell HR.out.2 HS.2
     have HSS:Hid (∀ wr',wr'=wr.setCell ⟨g,j*3+2,none⟩ (.int .i64 ((j:Int)+1))->Below w.heap.size w wr'/\wr'.ownsRow w.heap.size 45 3 (.slice (some ⟨g,0,none⟩) n cap4) n (rowV (nmb (j+1) L))):=fun wr' e=>by
      subst e;refine⟨HR.out.1.setCell (p:=⟨g,j*3+2,none⟩) hbg _,?_⟩;rw[<-HS.1];exact row_set HR.out.2 (List.getElem?_eq_some_iff.1 HS.2).1 _
     clear HS HR hbg hcm;go_wp2_with fail;go_roundw
     case rel=>exact⟨j+1,by omega,by go_num,HSS.out _ rfl⟩
     case measure=>(simp[intOf]<;>omega)
    ·have e:j=n:=by omega
     have HFI:Hid (Below w.heap.size w wr/\wr.ownsRow w.heap.size 45 3 (.slice (some ⟨g,0,none⟩) n cap4) n (rowV (nrw 1 L))):=by
      have:=HR.out;rw[e,HN.out,nmb_all]at this;rw[HN.out];exact this
     clear HR hj e;go_wp2_with fail;go_ret2;exact⟨_,_,rfl,HYes.out _ _ _ rfl HFI.out.1 HFI.out.2⟩
end Tre
end Go.Proofs.YtidhpmcmbooaoaaGreatDoor
