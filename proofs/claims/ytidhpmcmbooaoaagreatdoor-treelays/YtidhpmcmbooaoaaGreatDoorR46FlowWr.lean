/- . -/
import Derived.Test.YtidhpmcmbooaoaaGreatDoorR26UtfDec
import Derived.Test.YtidhpmcmbooaoaaGreatDoorR21QuoteRd
import Derived.Test.YtidhpmcmbooaoaaGreatDoorR38FlowAllow
import Derived.Test.YtidhpmcmbooaoaaGreatDoorR14PlainIs
import Derived.Test.YtidhpmcmbooaoaaGreatDoorR44QuotePut
import Derived.Test.YtidhpmcmbooaoaaGreatDoorR02FlowModel2
set_option linter.unusedSimpArgs false
set_option linter.unusedVariables false
set_option maxRecDepth 100000
namespace Go.Proofs.YtidhpmcmbooaoaaGreatDoor
namespace Flw
open Utf Rws Pln
open Go.RowKit
theorem embB:Quo.Emb 53 2:=⟨by decide,by kernel_rfl⟩
def Wb (B b:Nat) (out:Ln) (w:World):Prop:=Quo.Bld 53 B b [] (Lib.byteCells out) w
variable {B b KB:Nat} {out:Ln} {w w1 w2:World}
theorem Wb.lt (h:Wb B b out w):b<w.heap.size:=Quo.Bld.lt h
theorem Wb.later (h:Wb B b out w) (hb:Below w.heap.size w w1):Wb B b out w1:=Quo.Bld.later h hb
theorem Wb.base (h:Wb B b out w):B<=b:=by rcases h with ⟨h,_⟩ | ⟨h,_⟩<;>exact h
theorem wStr (s:Ln) (w:World) (h:Wb B b out w) (hlen:out.length+s.length<=140737488355328) (hBw:B<=w.heap.size) :
  Calls Tryz.prog 23 #[.pointer (some ⟨b,0,none⟩),.string (mk s)] w fun e w'=>e=.returned (.tuple #[.int .i64 (s.length:Int),.nilIface])/\Wb B b (out++s) w'/\Quo.Fr B b w w':=by
 refine(Quo.writeString_any embB (mk s) h (by rw[Quo.cells_len,mk_size];exact hlen) hBw).mono ?_;rintro e w' ⟨h1,h2,h3,h4⟩;rw[mk_size]at h1;refine⟨h1,?_,h3,h4⟩
 have e:Lib.byteCells out++Lib.strCells (mk s)=Lib.byteCells (out++s):=by
  simp[Lib.byteCells,Lib.strCells,mk_data]
 rw[e]at h2;exact h2
structure Wk (W w0 w:World) (B b KB:Nat) (out:Ln) (tc:Array Value):Prop where
 g:Wb B b out w
 t:Bx w KB tc 24
 bl:Below W.heap.size W w
 f:Quo.Fr B b w0 w
 hB:W.heap.size<=B
 hs:B<=w.heap.size
 hk:KB≠b
theorem Wk.later {W w0:World} {tc:Array Value} (h:Wk W w0 w B b KB out tc) (hb:Below w.heap.size w w1):Wk W w0 w1 B b KB out tc :=
 ⟨h.g.later hb,h.t.later hb,h.bl.trans (hb.mono h.bl.size),h.f.trans (Quo.Fr.of hb h.hs),h.hB,Nat.le_trans h.hs hb.size,h.hk⟩
theorem Wk.fr {W w0:World} {tc:Array Value} {out':Ln} (h:Wk W w0 w B b KB out tc) (hw:Wb B b out' w1) (hf:Quo.Fr B b w w1):Wk W w0 w1 B b KB out' tc :=
 ⟨hw,hf.keep h.t h.hk (fun c fz e=>by cases e),h.bl.trans (hf.1.mono h.hB),h.f.trans hf,h.hB,Nat.le_trans h.hs hf.1.size,h.hk⟩
theorem wk_str {W w0:World} {tc:Array Value} (s:Ln) (h:Wk W w0 w B b KB out tc) (hlen:out.length+s.length<=140737488355328) :
  Calls Tryz.prog 23 #[.pointer (some ⟨b,0,none⟩),.string (mk s)] w fun e w'=>e=.returned (.tuple #[.int .i64 (s.length:Int),.nilIface])/\Hid (Wk W w0 w' B b KB (out++s) tc) :=
 (wStr s w h.g hlen h.hs).mono (fun e w' g=>⟨g.1,h.fr g.2.1 g.2.2⟩)
theorem Wk.new {W:World} {tc:Array Value} (h:Wb B b out w) (hb:Below W.heap.size W w) (hB:W.heap.size<=B) (hs:B<=w.heap.size):Wk W w (w.alloc (.cells tc 24)) B b w.heap.size out tc :=
 ⟨h.later (below_alloc _ _),Bx.new _ _ _,hb.trans ((below_alloc _ _).mono hb.size),Quo.Fr.of (below_alloc _ _) hs,hB,by rw[World.size_alloc];omega,by have:=h.lt;omega⟩
end Flw
namespace Flw
open Utf Rws Pln
open Go.RowKit
set_option maxHeartbeats 4000000
structure Wq (W w0 w:World) (B b KB KK:Nat) (out:Ln) (tc kc:Array Value):Prop where
 g:Wk W w0 w B b KB out tc
 k:Bx w KK kc 24
 hk:KK≠b
theorem Wq.later {W w0 w w1:World} {B b KB KK:Nat} {out:Ln} {tc kc:Array Value} (h:Wq W w0 w B b KB KK out tc kc) (hb:Below w.heap.size w w1):Wq W w0 w1 B b KB KK out tc kc :=
 ⟨h.g.later hb,h.k.later hb,h.hk⟩
theorem Wq.new {W w0 w:World} {B b KB:Nat} {out:Ln} {tc kc:Array Value} (h:Wk W w0 w B b KB out tc):Wq W w0 (w.alloc (.cells kc 24)) B b KB w.heap.size out tc kc :=
 ⟨h.later (below_alloc _ _),Bx.new _ _ _,by have:=h.g.lt;omega⟩
theorem wq_str {W w0 w:World} {B b KB KK:Nat} {out:Ln} {tc kc:Array Value} (s:Ln) (h:Wq W w0 w B b KB KK out tc kc) (hlen:out.length+s.length<=140737488355328) :
  Calls Tryz.prog 23 #[.pointer (some ⟨b,0,none⟩),.string (mk s)] w fun e w'=>e=.returned (.tuple #[.int .i64 (s.length:Int),.nilIface])/\Hid (Wq W w0 w' B b KB KK (out++s) tc kc) :=
 (wStr s w h.g.g hlen h.g.hs).mono (fun e w' g=>⟨g.1,h.g.fr g.2.1 g.2.2,g.2.2.keep h.k h.hk (fun c fz e=>by cases e),h.hk⟩)
theorem sep_no {mp:Bool} {p:Nat} (h:(mp && decide (p % 2=0))=false):sep mp (p+1)=[44,32]:=by
 unfold sep;rw[if_neg (by omega),if_neg];rintro⟨h1,h2⟩;rw[h1,decide_eq_true (by omega)]at h;cases h
theorem sep_yes {mp:Bool} {p:Nat} (h:(mp && decide (p % 2=0))=true):sep mp (p+1)=[58,32]:=by
 unfold sep;simp only[Bool.and_eq_true,decide_eq_true_eq]at h;rw[if_neg (by omega),if_pos ⟨h.1,by omega⟩]
def WrOk (W:World) (B b d:Nat) (f:Tr->Ln) (P:Tr->Prop):Prop:=∀ (v:Value) (t:Tr) (w:World) (out:Ln),P t->TrV W d v t->Below W.heap.size W w->W.heap.size<=B->B<=w.heap.size->Wb B b out w->out.length+(f t).length<=140737488355328 ->
 Calls Tryz.prog 15 #[.pointer (some ⟨b,0,none⟩),v] w fun e w'=>e=.returned (.tuple #[])/\Wb B b (out++f t) w'/\Quo.Fr B b w w'
theorem jn_at (f:Tr->Ln) (mp:Bool) (j:Nat) (ks:List Tr) (h:j<ks.length):jn mp j ((ks.drop j).map f)=sep mp j++(f (ks.getD j tr0)++jn mp (j+1) ((ks.drop (j+1)).map f)):=by
 rw[List.drop_eq_getElem_cons h,List.getD_eq_getElem?_getD,List.getElem?_eq_getElem h,<-List.append_assoc];rfl
theorem writeKids_core (k:Int) (x a:Ln) (ad:Option Addr) (len cap:Nat) (W w:World) (B b d:Nat) (ks:List Tr) (hl:len<=9223372036854775807)
  (HK:Hid (KAt W d ad len ks)) (HBW:Hid (Below W.heap.size W w)) (hB:W.heap.size<=B) (hs:B<=w.heap.size) (out:Ln) (HW:Hid (Wb B b out w))
  (f:Tr->Ln) (P:Tr->Prop) (hP:∀ i,i<ks.length->P (ks.getD i tr0)) (HI:Hid (WrOk W B b d f P)) (mp:Bool) (HM:Hid (mp=decide (k=6))) (J:Ln) (HJ:Hid (J=jn mp 0 (ks.map f))) (hlen:out.length+J.length<=140737488355328) :
  Calls Tryz.prog 24 #[.pointer (some ⟨b,0,none⟩),tv k x a ad len cap] w fun e w'=>e=.returned (.tuple #[])/\Hid (Wb B b (out++J) w'/\Quo.Fr B b w w'):=by
 have H1:Hid (Wk W w (w.alloc (.cells #[.int .i64 k,.string (mk x),.string (mk a),.slice ad len cap] 24)) B b w.heap.size out #[.int .i64 k,.string (mk x),.string (mk a),.slice ad len cap]):=Wk.new HW.out HBW.out hB hs;obtain⟨w1,hw1⟩:∃ w1,w.alloc (.cells #[.int .i64 k,.string (mk x),.string (mk a),.slice ad len cap] 24)=w1:=⟨_,rfl⟩;rw[hw1]at H1;obtain⟨KB,hKB⟩:∃ KB,w.heap.size=KB:=⟨_,rfl⟩;rw[hKB]at H1;have e3:w1.cell? ⟨KB,3,none⟩=some (.slice ad len cap):=H1.out.t.cell 3;have HLN:Hid (out.length+J.length<=140737488355328):=hlen;clear hlen HW HBW;go_enter Tryz.func24,Tryz.ntmps24;go_wp2_with fail;clear e3
 go_loopw [9] (fun i wr=>∃ (j:Nat) (acc:Ln),j<=len/\i=.int .i64 j/\Hid (Wk W w wr B b KB acc #[.int .i64 k,.string (mk x),.string (mk a),.slice ad len cap])/\Hid (out++J=acc++jn mp j ((ks.drop j).map f))) (fun i _=>len-(intOf i).toNat)
 case atStart=>exact⟨0,out,Nat.zero_le _,rfl,H1,by show _=_;rw[HJ.out];rfl⟩
 case round =>
  obtain⟨j,acc,hj,rfl,HWk,HA⟩:=hrel;clear H1;by_cases hlt:j<len
  ·have hlk:j<ks.length:=by have:=HK.out.1;omega
   obtain⟨b',off,rfl,hb,hcell⟩:=HK.out.2 (by omega);obtain⟨c0,c1,c2,c3,x0,x1,x2,x3,hx'⟩:=hcell j hlt;replace x0:=(HWk.out.bl.cell (p:=⟨b',off+j*4,none⟩) hb).trans x0;replace x1:=(HWk.out.bl.cell (p:=⟨b',off+j*4+1,none⟩) hb).trans x1;replace x2:=(HWk.out.bl.cell (p:=⟨b',off+j*4+2,none⟩) hb).trans x2;replace x3:=(HWk.out.bl.cell (p:=⟨b',off+j*4+3,none⟩) hb).trans x3;have HV:Hid (TrV W d (.agg #[c0,c1,c2,c3]) (ks.getD j tr0)):=hx';obtain⟨ad',len',cap',rfl,rfl,rfl,rfl⟩:=hx'.four;clear hcell hx';have HPk:Hid (P (ks.getD j tr0)):=hP j hlk;have HAT:Hid (out++J=acc++(sep mp j++(f (ks.getD j tr0)++jn mp (j+1) ((ks.drop (j+1)).map f)))):=HA.out.trans (by rw[jn_at f mp j ks hlk]);clear HA;generalize ks.getD j tr0=t' at x0 x1 x2 x3 HV HPk HAT;obtain⟨k',y',a',ks'⟩:=t';simp only at x0 x1 x2 x3 HV HAT;obtain⟨F,HF⟩:∃ F,Hid (F=f ⟨k',y',a',ks'⟩):=⟨_,rfl⟩;obtain⟨S,HS⟩:∃ S,Hid (S=sep mp j):=⟨_,rfl⟩;rw[<-HF.out,<-HS.out]at HAT
   have HL2:Hid (acc.length+(S.length+F.length)<=140737488355328):=by
    have h1:=congrArg List.length HAT.out;simp only[List.length_append]at h1;have h2:=HLN.out;show _<=_;omega
   have H4:Hid (Wq W w (wr.alloc (.cells #[.int .i64 k',.string (mk y'),.string (mk a'),.slice ad' len' cap'] 24)) B b KB wr.heap.size acc #[.int .i64 k,.string (mk x),.string (mk a),.slice (some ⟨b',off,none⟩) len cap] #[.int .i64 k',.string (mk y'),.string (mk a'),.slice ad' len' cap']):=Wq.new HWk.out;go_upto_region 5 with fail
   generalize wr.alloc (.cells #[.int .i64 k',.string (mk y'),.string (mk a'),.slice ad' len' cap'] 24)=w4 at H4 |-;generalize wr.heap.size=KK at H4 |-;have HKP:Hid (∀ (p:Nat) (w':World),j=p+1->Hid (Wq W w w' B b KB KK (acc) #[.int .i64 k,.string (mk x),.string (mk a),.slice (some ⟨b',off,none⟩) len cap] #[.int .i64 k',.string (mk y'),.string (mk a'),.slice ad' len' cap'])->Calls Tryz.prog 28 #[.agg #[.int .i64 k,.string (mk x),.string (mk a),.slice (some ⟨b',off,none⟩) len cap],.int .i64 (p:Int)] w' fun e w''=>e=.returned (.bool (mp && decide (p % 2=0)))/\Hid (Wq W w w'' B b KB KK (acc) #[.int .i64 k,.string (mk x),.string (mk a),.slice (some ⟨b',off,none⟩) len cap] #[.int .i64 k',.string (mk y'),.string (mk a'),.slice ad' len' cap'])):=fun p w' hp h=>(isKeyPlace_any p (by omega)).mono (fun e w'' g=>⟨by rw[g.1,HM.out],h.out.later g.2⟩)
   have HST:Hid (∀ w' s,S=s->Hid (Wq W w w' B b KB KK (acc) #[.int .i64 k,.string (mk x),.string (mk a),.slice (some ⟨b',off,none⟩) len cap] #[.int .i64 k',.string (mk y'),.string (mk a'),.slice ad' len' cap'])->Calls Tryz.prog 23 #[.pointer (some ⟨b,0,none⟩),.string (mk s)] w' fun e w''=>e=.returned (.tuple #[.int .i64 (s.length:Int),.nilIface])/\Hid (Wq W w w'' B b KB KK (acc++S) #[.int .i64 k,.string (mk x),.string (mk a),.slice (some ⟨b',off,none⟩) len cap] #[.int .i64 k',.string (mk y'),.string (mk a'),.slice ad' len' cap'])):=fun w' s hs h=>by
    subst hs;exact wq_str S h.out (by have:=HL2.out;omega)
   have HWR:Hid (∀ w',Hid (Wq W w w' B b KB KK (acc++S) #[.int .i64 k,.string (mk x),.string (mk a),.slice (some ⟨b',off,none⟩) len cap] #[.int .i64 k',.string (mk y'),.string (mk a'),.slice ad' len' cap'])->Calls Tryz.prog 15 #[.pointer (some ⟨b,0,none⟩),.agg #[.int .i64 k',.string (mk y'),.string (mk a'),.slice ad' len' cap']] w' fun e w''=>e=.returned (.tuple #[])/\Hid (Hid (Wk W w w'' B b KB (acc++S++F) #[.int .i64 k,.string (mk x),.string (mk a),.slice (some ⟨b',off,none⟩) len cap])/\Hid (out++J=acc++S++F++jn mp (j+1) ((ks.drop (j+1)).map f)))):=fun w' h =>
    (HI.out _ _ w' (acc++S) HPk.out HV.out h.out.g.bl h.out.g.hB h.out.g.hs h.out.g.g (by rw[<-HF.out,List.length_append];have:=HL2.out;omega)).mono (fun e w'' g=>⟨g.1,h.out.g.fr (by have:=g.2.1;rw[<-HF.out]at this;exact this) g.2.2,by show _=_;rw[HAT.out];simp only[List.append_assoc]⟩)
   obtain⟨u0,u1,u2,u3⟩:=H4.out.g.t.c4;obtain⟨v0,v1,v2,v3⟩:=H4.out.k.c4;clear HV HPk HWk x0 x1 x2 x3 HI HF HAT HL2 HLN HJ;by_cases hj0:j=0
   ·subst hj0;have HS0:S=[]:=HS.out;subst HS0;have H4':Hid (Wq W w w4 B b KB KK (acc++[]) #[.int .i64 k,.string (mk x),.string (mk a),.slice (some ⟨b',off,none⟩) len cap] #[.int .i64 k',.string (mk y'),.string (mk a'),.slice ad' len' cap']):=by rw[List.append_nil];exact H4
    go_wp2_with (first | (go_at_call 15;refine(HWR.out _ H4').mono ?_;rintro e w9 ⟨rfl,H9⟩));go_roundw
    case rel=>exact⟨0+1,_,by omega,by go_num,H9.out.1,H9.out.2⟩
    case measure=>simp[intOf];omega
   obtain⟨p,rfl⟩:∃ p,j=p+1:=⟨j-1,by omega⟩;clear hj0;obtain⟨q1,HQ1⟩:∃ q1,Hid (q1=(mp && decide (p % 2=0))):=⟨_,rfl⟩;have HKP2:=HKP.out p w4 rfl H4;rw[<-HQ1.out]at HKP2;cases q1
   ·replace HS:Hid (S=[44,32]):=HS.out.trans (sep_no HQ1.out.symm);go_wp2_with (first | (go_at_call 28;refine HKP2.mono ?_;rintro e w5 ⟨rfl,H5⟩) | (go_at_call 23;refine(HST.out _ [44,32] HS.out H5).mono ?_;rintro e w6 ⟨rfl,H6⟩;have z0:w6.cell? ⟨KK,0,none⟩=some (.int .i64 k'):=H6.out.k.cell 0;have z1:w6.cell? ⟨KK,1,none⟩=some (.string (mk y')):=H6.out.k.cell 1;have z2:w6.cell? ⟨KK,2,none⟩=some (.string (mk a')):=H6.out.k.cell 2;have z3:w6.cell? ⟨KK,3,none⟩=some (.slice ad' len' cap'):=H6.out.k.cell 3) | (go_at_call 15;refine(HWR.out _ H6).mono ?_;rintro e w9 ⟨rfl,H9⟩));go_roundw
    case rel=>exact⟨(p+1)+1,_,by omega,by go_num,H9.out.1,H9.out.2⟩
    case measure=>simp[intOf];omega
   ·replace HS:Hid (S=[58,32]):=HS.out.trans (sep_yes HQ1.out.symm);go_wp2_with (first | (go_at_call 28;refine HKP2.mono ?_;rintro e w5 ⟨rfl,H5⟩) | (go_at_call 23;refine(HST.out _ [58,32] HS.out H5).mono ?_;rintro e w6 ⟨rfl,H6⟩;have z0:w6.cell? ⟨KK,0,none⟩=some (.int .i64 k'):=H6.out.k.cell 0;have z1:w6.cell? ⟨KK,1,none⟩=some (.string (mk y')):=H6.out.k.cell 1;have z2:w6.cell? ⟨KK,2,none⟩=some (.string (mk a')):=H6.out.k.cell 2;have z3:w6.cell? ⟨KK,3,none⟩=some (.slice ad' len' cap'):=H6.out.k.cell 3) | (go_at_call 15;refine(HWR.out _ H6).mono ?_;rintro e w9 ⟨rfl,H9⟩));go_roundw
    case rel=>exact⟨(p+1)+1,_,by omega,by go_num,H9.out.1,H9.out.2⟩
    case measure=>simp[intOf];omega
  ·have HLE:Hid (len=ks.length):=HK.out.1;have e:j=len:=by omega
   subst e;have HE:Hid (out++J=acc):=by show _=_;rw[HA.out,HLE.out,List.drop_length];exact List.append_nil _
   go_wp2;go_end0;exact⟨rfl,by rw[HE.out];exact HWk.out.g,HWk.out.f⟩
end Flw
namespace Flw
open Utf Rws Pln
open Go.RowKit
set_option maxHeartbeats 4000000
variable {w:World} {k:Int} {x a:Ln} {ad:Option Addr} {len cap:Nat}
theorem scalar0_any (f:Bool) (hx:x.length<=65536) (hT:Tb w):Calls Tryz.prog 25 #[tv k x a ad len cap,.bool f] w fun e w'=>e=.returned (.string (mk (scl f k x)))/\Below w.heap.size w w':=by
 have b1:=below_alloc w (.cells #[.int .i64 k,.string (mk x),.string (mk a),.slice ad len cap] 24);by_cases h1:k=1
 ·have HV:Hid (scl f k x=[110,117,108,108]):=by unfold scl;rw[if_pos h1];exact rfl
  subst h1;clear hT b1;go_enter Tryz.func25,Tryz.ntmps25;go_wp2;go_ret;refine⟨?_,below_alloc _ _⟩;rw[HV.out]
  first | rfl | (simp;decide)
 by_cases h2:k=2\/k=3
 ·have HV:Hid (scl f k x=x):=by unfold scl;rw[if_neg h1,if_pos h2];exact rfl
  clear hT b1 h1;rcases h2 with rfl | rfl <;>
  ·go_enter Tryz.func25,Tryz.ntmps25;go_wp2;go_ret;refine⟨?_,below_alloc _ _⟩;rw[HV.out];rfl
 by_cases h4:k=4
 ·have HV:Hid (scl f k x=if isP x f=true/\knd x=4 then x else Quo.dblS x):=by unfold scl;rw[if_neg h1,if_neg h2,if_pos h4];exact rfl
  subst h4;have hx0:=Bx.new w #[.int .i64 4,.string (mk x),.string (mk a),.slice ad len cap] 24;obtain⟨W,hW⟩:∃ W,w.alloc (.cells #[.int .i64 4,.string (mk x),.string (mk a),.slice ad len cap] 24)=W:=⟨_,rfl⟩;rw[hW]at hx0 b1;obtain⟨K,hK⟩:∃ K,w.heap.size=K:=⟨_,rfl⟩;rw[hK]at hx0;have H0:Hid (Bx W K #[.int .i64 4,.string (mk x),.string (mk a),.slice ad len cap] 24/\Below w.heap.size w W/\Tb W):=⟨hx0,b1,hT.later b1⟩;have HI:Hid (∀ w',Hid (Bx w' K #[.int .i64 4,.string (mk x),.string (mk a),.slice ad len cap] 24/\Below w.heap.size w w'/\Tb w')->Calls Tryz.prog 43 #[.string (mk x),.bool f] w' fun e w''=>e=.returned (.bool (isP x f))/\Hid (Bx w'' K #[.int .i64 4,.string (mk x),.string (mk a),.slice ad len cap] 24/\Below w.heap.size w w''/\Tb w'')):=fun w' h=>(is_any x f _ (by omega)).mono (fun e w'' g=>⟨g.1,⟨h.out.1.later g.2,h.out.2.1.trans (g.2.mono h.out.2.1.size),h.out.2.2.later g.2⟩⟩)
  have HR:Hid (∀ w',Hid (Bx w' K #[.int .i64 4,.string (mk x),.string (mk a),.slice ad len cap] 24/\Below w.heap.size w w'/\Tb w')->Calls Tryz.prog 44 #[.string (mk x)] w' fun e w''=>e=.returned (.int .i64 (knd x))/\Hid (Bx w'' K #[.int .i64 4,.string (mk x),.string (mk a),.slice ad len cap] 24/\Below w.heap.size w w''/\Tb w'')):=fun w' h=>(resolve_any x _ (by omega) h.out.2.2.1).mono (fun e w'' g=>⟨g.1,⟨h.out.1.later g.2,h.out.2.1.trans (g.2.mono h.out.2.1.size),h.out.2.2.later g.2⟩⟩)
  have HD:Hid (∀ w',Hid (Bx w' K #[.int .i64 4,.string (mk x),.string (mk a),.slice ad len cap] 24/\Below w.heap.size w w'/\Tb w')->Calls Tryz.prog 45 #[.string (mk x)] w' fun e w''=>e=.returned (.tuple #[.string (mk (Quo.dblS x)),.int .i64 (Quo.dblE x)])/\Hid (Bx w'' K #[.int .i64 4,.string (mk x),.string (mk a),.slice ad len cap] 24/\Below w.heap.size w w''/\Tb w'')):=fun w' h=>(Quo.double_any x _ (by omega) h.out.2.2.2).mono (fun e w'' g=>⟨g.1,⟨h.out.1.later g.2,h.out.2.1.trans (g.2.mono h.out.2.1.size),h.out.2.2.later g.2⟩⟩)
  have u0:W.cell? ⟨K,0,none⟩=some (.int .i64 4):=hx0.cell 0;have u1:W.cell? ⟨K,1,none⟩=some (.string (mk x)):=hx0.cell 1;clear hT b1 h1 h2 hx0;generalize knd x=kx at *;generalize Quo.dblS x=ds at *;generalize Quo.dblE x=de at *;go_enter Tryz.func25,Tryz.ntmps25;go_upto_region 1 with fail
  cases hip:isP x f
  ·rw[hip]at HI HV;go_wp2_with (first | (go_at_call 43;refine(HI.out _ H0).mono ?_;rintro e w5 ⟨rfl,H5⟩;have v1:w5.cell? ⟨K,1,none⟩=some (.string (mk x)):=H5.out.1.cell 1) | (go_at_call 45;refine(HD.out _ H5).mono ?_;rintro e w7 ⟨rfl,H7⟩));go_ret;refine⟨?_,hK▸H7.out.2.1⟩;rw[HV.out,if_neg (fun h=>Bool.noConfusion h.1)];rfl
  rw[hip]at HI HV;by_cases hk:kx=4
  ·subst hk;go_wp2_with (first | (go_at_call 43;refine(HI.out _ H0).mono ?_;rintro e w5 ⟨rfl,H5⟩;have v1:w5.cell? ⟨K,1,none⟩=some (.string (mk x)):=H5.out.1.cell 1) | (go_at_call 44;refine(HR.out _ H5).mono ?_;rintro e w6 ⟨rfl,H6⟩;have z1:w6.cell? ⟨K,1,none⟩=some (.string (mk x)):=H6.out.1.cell 1));go_ret;refine⟨?_,hK▸H6.out.2.1⟩;rw[HV.out,if_pos (by simp)];rfl
  ·have ek:(kx==4)=false:=by simpa using hk
   have HV2:Hid (scl f 4 x=ds):=HV.out.trans (if_neg fun h=>hk h.2);clear hk HV;go_wp2_with (first | (go_at_call 43;refine(HI.out _ H0).mono ?_;rintro e w5 ⟨rfl,H5⟩;have v1:w5.cell? ⟨K,1,none⟩=some (.string (mk x)):=H5.out.1.cell 1) | (go_at_call 44;refine(HR.out _ H5).mono ?_;rintro e w6 ⟨rfl,H6⟩;have z1:w6.cell? ⟨K,1,none⟩=some (.string (mk x)):=H6.out.1.cell 1) | (go_at_call 45;refine(HD.out _ H6).mono ?_;rintro e w7 ⟨rfl,H7⟩));go_ret;refine⟨?_,hK▸H7.out.2.1⟩;rw[HV2.out];rfl
 ·have HV:Hid (scl f k x=[]):=by unfold scl;rw[if_neg h1,if_neg h2,if_neg h4];exact rfl
  have e1:(k==1)=false:=by simpa using h1
  have e2:(k==2)=false:=by simpa using fun e=>h2 (.inl e)
  have e3:(k==3)=false:=by simpa using fun e=>h2 (.inr e)
  have e4:(k==4)=false:=by simpa using h4
  clear h1 h2 h4 hT b1;go_enter Tryz.func25,Tryz.ntmps25;go_wp2;go_ret;exact⟨by rw[HV.out];rfl,below_alloc _ _⟩
end Flw
namespace Flw
open Utf Rws Pln
open Go.RowKit
set_option maxHeartbeats 4000000
theorem mk_app (a b:List UInt8):mk a++mk b=mk (a++b):=by
 have h:(mk a++mk b).data.toList=a++b:=by
  rw[ByteArray.data_append,Array.toList_append,mk_data,mk_data]
 rw[<-mk_of (mk a++mk b),h]
theorem write_alias (x a:Ln) (ad:Option Addr) (len cap:Nat) (W w:World) (B b:Nat) (ha:a.length<=65536)
  (HBW:Hid (Below W.heap.size W w)) (hB:W.heap.size<=B) (hs:B<=w.heap.size) (out:Ln) (HW:Hid (Wb B b out w)) (hlen:out.length+(42::a).length<=140737488355328) :
  Calls Tryz.prog 15 #[.pointer (some ⟨b,0,none⟩),tv 7 x a ad len cap] w fun e w'=>e=.returned (.tuple #[])/\Wb B b (out++42::a) w'/\Quo.Fr B b w w':=by
 have H1:Hid (Wk W w (w.alloc (.cells #[.int .i64 7,.string (mk x),.string (mk a),.slice ad len cap] 24)) B b w.heap.size out #[.int .i64 7,.string (mk x),.string (mk a),.slice ad len cap]):=Wk.new HW.out HBW.out hB hs;obtain⟨w1,hw1⟩:∃ w1,w.alloc (.cells #[.int .i64 7,.string (mk x),.string (mk a),.slice ad len cap] 24)=w1:=⟨_,rfl⟩;rw[hw1]at H1;obtain⟨KB,hKB⟩:∃ KB,w.heap.size=KB:=⟨_,rfl⟩;rw[hKB]at H1;have e0:w1.cell? ⟨KB,0,none⟩=some (.int .i64 7):=H1.out.t.cell 0;have e2:w1.cell? ⟨KB,2,none⟩=some (.string (mk a)):=H1.out.t.cell 2;have hma:(mk a).size<=65536:=by rw[mk_size];exact ha
 have HST:Hid (Calls Tryz.prog 23 #[.pointer (some ⟨b,0,none⟩),.string (mk (42::a))] w1 fun e w'=>e=.returned (.tuple #[.int .i64 ((42::a).length:Int),.nilIface])/\Hid (Wk W w w' B b KB (out++42::a) #[.int .i64 7,.string (mk x),.string (mk a),.slice ad len cap])):=wk_str (42::a) H1.out hlen;clear hlen HW HBW;go_enter Tryz.func15,Tryz.ntmps15;go_wp2_with fail;rw[show ((⟨#[42]⟩:ByteArray)++mk a)=mk (42::a)from mk_app [42] a];refine HST.out.mono ?_;rintro e w2 ⟨rfl,H2⟩;go_wp2;exact bodyPost_ret (v:=.tuple #[]) (by simp[results,Tryz.results15,go_sem]) rfl ⟨rfl,H2.out.g,H2.out.f⟩
theorem write_seq (x a:Ln) (ad:Option Addr) (len cap:Nat) (W w:World) (B b d:Nat) (ks:List Tr) (hl:len<=9223372036854775807) (hx:x.length<=65536) (ha:a.length<=65536)
  (HK:Hid (KAt W d ad len ks)) (HBW:Hid (Below W.heap.size W w)) (HTW:Hid (Tb W)) (hB:W.heap.size<=B) (hs:B<=w.heap.size) (out:Ln) (HW:Hid (Wb B b out w))
  (f:Tr->Ln) (P:Tr->Prop) (hP:∀ i,i<ks.length->P (ks.getD i tr0)) (HI:Hid (WrOk W B b d f P)) (hlen:out.length+(ancW a++(91::(jn false 0 (ks.map f)++[93]))).length<=140737488355328) :
  Calls Tryz.prog 15 #[.pointer (some ⟨b,0,none⟩),tv 5 x a ad len cap] w fun e w'=>e=.returned (.tuple #[])/\Wb B b (out++(ancW a++(91::(jn false 0 (ks.map f)++[93])))) w'/\Quo.Fr B b w w':=by
 have H1:Hid (Wk W w (w.alloc (.cells #[.int .i64 5,.string (mk x),.string (mk a),.slice ad len cap] 24)) B b w.heap.size out #[.int .i64 5,.string (mk x),.string (mk a),.slice ad len cap]):=Wk.new HW.out HBW.out hB hs;obtain⟨w1,hw1⟩:∃ w1,w.alloc (.cells #[.int .i64 5,.string (mk x),.string (mk a),.slice ad len cap] 24)=w1:=⟨_,rfl⟩;rw[hw1]at H1;obtain⟨KB,hKB⟩:∃ KB,w.heap.size=KB:=⟨_,rfl⟩;rw[hKB]at H1;obtain⟨e0,e1,e2,e3⟩:=H1.out.t.c4;have hma:(mk a).size<=65536:=by rw[mk_size];exact ha
 have HLN:Hid (out.length+(ancW a++(91::(jn false 0 (ks.map f)++[93]))).length<=140737488355328):=hlen;simp only[List.length_append,List.length_cons,List.length_nil]at hlen;have HST:Hid (∀ w' s o,o.length+s.length<=140737488355328->Hid (Wk W w w' B b KB (o) #[.int .i64 5,.string (mk x),.string (mk a),.slice ad len cap])->Calls Tryz.prog 23 #[.pointer (some ⟨b,0,none⟩),.string (mk s)] w' fun e w''=>e=.returned (.tuple #[.int .i64 (s.length:Int),.nilIface])/\Hid (Wk W w w'' B b KB (o++s) #[.int .i64 5,.string (mk x),.string (mk a),.slice ad len cap])):=fun w' s o hl h=>wk_str s h.out hl
 have HKD:Hid (∀ w' o,o.length+(jn false 0 (ks.map f)).length<=140737488355328->Hid (Wk W w w' B b KB (o) #[.int .i64 5,.string (mk x),.string (mk a),.slice ad len cap])->Calls Tryz.prog 24 #[.pointer (some ⟨b,0,none⟩),.agg #[.int .i64 5,.string (mk x),.string (mk a),.slice ad len cap]] w' fun e w''=>e=.returned (.tuple #[])/\Hid (Wk W w w'' B b KB (o++jn false 0 (ks.map f)) #[.int .i64 5,.string (mk x),.string (mk a),.slice ad len cap])):=fun w' o hl' h =>
  (writeKids_core 5 x a ad len cap W w' B b d ks hl HK.out h.out.bl hB h.out.hs o h.out.g f P hP HI false rfl _ rfl hl').mono (fun e w'' g=>⟨g.1,h.out.fr g.2.out.1 g.2.out.2⟩)
 generalize jn false 0 (ks.map f)=J at *;clear HW HBW HI hP HTW HK;by_cases h0:a=[]
 ·subst h0;have he:((mk []).toList==[])=true:=by rw[ByteArray.toList_eq,mk_data];rfl
  have hA:ancW []=[]:=rfl;rw[hA]at HLN hlen |-;go_enter Tryz.func15,Tryz.ntmps15;go_wp2_with fail;refine(HST.out _ [91] out (by simp at hlen |-;omega) H1).mono ?_;rintro e w2 ⟨rfl,G1⟩;obtain⟨g0,g1,g2,g3⟩:=G1.out.t.c4;go_wp2_with fail;refine(HKD.out _ _ (by simp at hlen |-;omega) G1).mono ?_;rintro e w3 ⟨rfl,G2⟩;go_wp2_with fail;refine(HST.out _ [93] _ (by simp at hlen |-;omega) G2).mono ?_;rintro e w4 ⟨rfl,G3⟩;go_wp2;go_end0;exact⟨rfl,by have:=G3.out.g;simpa using this,G3.out.f⟩
 ·have he:((mk a).toList==[])=false:=by rw[ByteArray.toList_eq,mk_data];simpa using h0
  have hA:ancW a=38::(a++[32]):=if_neg h0;rw[hA]at HLN hlen |-;go_enter Tryz.func15,Tryz.ntmps15;go_wp2_with fail;rw[show ((⟨#[38]⟩:ByteArray)++mk a++⟨#[32]⟩)=mk (38::(a++[32]))from by rw[show ((⟨#[38]⟩:ByteArray)++mk a)=mk (38::a)from mk_app [38] a];exact mk_app (38::a) [32]];refine(HST.out _ (38::(a++[32])) out (by simp at hlen |-;omega) H1).mono ?_;rintro e w2 ⟨rfl,G0⟩;obtain⟨g0,g1,g2,g3⟩:=G0.out.t.c4;go_wp2_with fail;refine(HST.out _ [91] _ (by simp at hlen |-;omega) G0).mono ?_;rintro e w3 ⟨rfl,G1⟩;obtain⟨i0,i1,i2,i3⟩:=G1.out.t.c4;go_wp2_with fail;refine(HKD.out _ _ (by simp at hlen |-;omega) G1).mono ?_;rintro e w4 ⟨rfl,G2⟩;go_wp2_with fail;refine(HST.out _ [93] _ (by simp at hlen |-;omega) G2).mono ?_;rintro e w5 ⟨rfl,G3⟩;go_wp2;go_end0;exact⟨rfl,by have:=G3.out.g;simpa using this,G3.out.f⟩
theorem write_map (x a:Ln) (ad:Option Addr) (len cap:Nat) (W w:World) (B b d:Nat) (ks:List Tr) (hl:len<=9223372036854775807) (hx:x.length<=65536) (ha:a.length<=65536)
  (HK:Hid (KAt W d ad len ks)) (HBW:Hid (Below W.heap.size W w)) (HTW:Hid (Tb W)) (hB:W.heap.size<=B) (hs:B<=w.heap.size) (out:Ln) (HW:Hid (Wb B b out w))
  (f:Tr->Ln) (P:Tr->Prop) (hP:∀ i,i<ks.length->P (ks.getD i tr0)) (HI:Hid (WrOk W B b d f P)) (hlen:out.length+(ancW a++(123::(jn true 0 (ks.map f)++[125]))).length<=140737488355328) :
  Calls Tryz.prog 15 #[.pointer (some ⟨b,0,none⟩),tv 6 x a ad len cap] w fun e w'=>e=.returned (.tuple #[])/\Wb B b (out++(ancW a++(123::(jn true 0 (ks.map f)++[125])))) w'/\Quo.Fr B b w w':=by
 have H1:Hid (Wk W w (w.alloc (.cells #[.int .i64 6,.string (mk x),.string (mk a),.slice ad len cap] 24)) B b w.heap.size out #[.int .i64 6,.string (mk x),.string (mk a),.slice ad len cap]):=Wk.new HW.out HBW.out hB hs;obtain⟨w1,hw1⟩:∃ w1,w.alloc (.cells #[.int .i64 6,.string (mk x),.string (mk a),.slice ad len cap] 24)=w1:=⟨_,rfl⟩;rw[hw1]at H1;obtain⟨KB,hKB⟩:∃ KB,w.heap.size=KB:=⟨_,rfl⟩;rw[hKB]at H1;obtain⟨e0,e1,e2,e3⟩:=H1.out.t.c4;have hma:(mk a).size<=65536:=by rw[mk_size];exact ha
 have HLN:Hid (out.length+(ancW a++(123::(jn true 0 (ks.map f)++[125]))).length<=140737488355328):=hlen;simp only[List.length_append,List.length_cons,List.length_nil]at hlen;have HST:Hid (∀ w' s o,o.length+s.length<=140737488355328->Hid (Wk W w w' B b KB (o) #[.int .i64 6,.string (mk x),.string (mk a),.slice ad len cap])->Calls Tryz.prog 23 #[.pointer (some ⟨b,0,none⟩),.string (mk s)] w' fun e w''=>e=.returned (.tuple #[.int .i64 (s.length:Int),.nilIface])/\Hid (Wk W w w'' B b KB (o++s) #[.int .i64 6,.string (mk x),.string (mk a),.slice ad len cap])):=fun w' s o hl h=>wk_str s h.out hl
 have HKD:Hid (∀ w' o,o.length+(jn true 0 (ks.map f)).length<=140737488355328->Hid (Wk W w w' B b KB (o) #[.int .i64 6,.string (mk x),.string (mk a),.slice ad len cap])->Calls Tryz.prog 24 #[.pointer (some ⟨b,0,none⟩),.agg #[.int .i64 6,.string (mk x),.string (mk a),.slice ad len cap]] w' fun e w''=>e=.returned (.tuple #[])/\Hid (Wk W w w'' B b KB (o++jn true 0 (ks.map f)) #[.int .i64 6,.string (mk x),.string (mk a),.slice ad len cap])):=fun w' o hl' h =>
  (writeKids_core 6 x a ad len cap W w' B b d ks hl HK.out h.out.bl hB h.out.hs o h.out.g f P hP HI true rfl _ rfl hl').mono (fun e w'' g=>⟨g.1,h.out.fr g.2.out.1 g.2.out.2⟩)
 generalize jn true 0 (ks.map f)=J at *;clear HW HBW HI hP HTW HK;by_cases h0:a=[]
 ·subst h0;have he:((mk []).toList==[])=true:=by rw[ByteArray.toList_eq,mk_data];rfl
  have hA:ancW []=[]:=rfl;rw[hA]at HLN hlen |-;go_enter Tryz.func15,Tryz.ntmps15;go_wp2_with fail;refine(HST.out _ [123] out (by simp at hlen |-;omega) H1).mono ?_;rintro e w2 ⟨rfl,G1⟩;obtain⟨g0,g1,g2,g3⟩:=G1.out.t.c4;go_wp2_with fail;refine(HKD.out _ _ (by simp at hlen |-;omega) G1).mono ?_;rintro e w3 ⟨rfl,G2⟩;go_wp2_with fail;refine(HST.out _ [125] _ (by simp at hlen |-;omega) G2).mono ?_;rintro e w4 ⟨rfl,G3⟩;go_wp2;go_end0;exact⟨rfl,by have:=G3.out.g;simpa using this,G3.out.f⟩
 ·have he:((mk a).toList==[])=false:=by rw[ByteArray.toList_eq,mk_data];simpa using h0
  have hA:ancW a=38::(a++[32]):=if_neg h0;rw[hA]at HLN hlen |-;go_enter Tryz.func15,Tryz.ntmps15;go_wp2_with fail;rw[show ((⟨#[38]⟩:ByteArray)++mk a++⟨#[32]⟩)=mk (38::(a++[32]))from by rw[show ((⟨#[38]⟩:ByteArray)++mk a)=mk (38::a)from mk_app [38] a];exact mk_app (38::a) [32]];refine(HST.out _ (38::(a++[32])) out (by simp at hlen |-;omega) H1).mono ?_;rintro e w2 ⟨rfl,G0⟩;obtain⟨g0,g1,g2,g3⟩:=G0.out.t.c4;go_wp2_with fail;refine(HST.out _ [123] _ (by simp at hlen |-;omega) G0).mono ?_;rintro e w3 ⟨rfl,G1⟩;obtain⟨i0,i1,i2,i3⟩:=G1.out.t.c4;go_wp2_with fail;refine(HKD.out _ _ (by simp at hlen |-;omega) G1).mono ?_;rintro e w4 ⟨rfl,G2⟩;go_wp2_with fail;refine(HST.out _ [125] _ (by simp at hlen |-;omega) G2).mono ?_;rintro e w5 ⟨rfl,G3⟩;go_wp2;go_end0;exact⟨rfl,by have:=G3.out.g;simpa using this,G3.out.f⟩
theorem write_leaf (k:Int) (hk1:1<=k) (hk4:k<=4) (x a:Ln) (ad:Option Addr) (len cap:Nat) (W w:World) (B b d:Nat) (ks:List Tr) (hl:len<=9223372036854775807) (hx:x.length<=65536) (ha:a.length<=65536)
  (HK:Hid (KAt W d ad len ks)) (HBW:Hid (Below W.heap.size W w)) (HTW:Hid (Tb W)) (hB:W.heap.size<=B) (hs:B<=w.heap.size) (out:Ln) (HW:Hid (Wb B b out w))
  (f:Tr->Ln) (P:Tr->Prop) (hP:∀ i,i<ks.length->P (ks.getD i tr0)) (HI:Hid (WrOk W B b d f P)) (hlen:out.length+(ancW a++scl true k x).length<=140737488355328) :
  Calls Tryz.prog 15 #[.pointer (some ⟨b,0,none⟩),tv k x a ad len cap] w fun e w'=>e=.returned (.tuple #[])/\Wb B b (out++(ancW a++scl true k x)) w'/\Quo.Fr B b w w':=by
 have H1:Hid (Wk W w (w.alloc (.cells #[.int .i64 k,.string (mk x),.string (mk a),.slice ad len cap] 24)) B b w.heap.size out #[.int .i64 k,.string (mk x),.string (mk a),.slice ad len cap]):=Wk.new HW.out HBW.out hB hs;obtain⟨w1,hw1⟩:∃ w1,w.alloc (.cells #[.int .i64 k,.string (mk x),.string (mk a),.slice ad len cap] 24)=w1:=⟨_,rfl⟩;rw[hw1]at H1;obtain⟨KB,hKB⟩:∃ KB,w.heap.size=KB:=⟨_,rfl⟩;rw[hKB]at H1;obtain⟨e0,e1,e2,e3⟩:=H1.out.t.c4;have hma:(mk a).size<=65536:=by rw[mk_size];exact ha
 have HLN:Hid (out.length+(ancW a++scl true k x).length<=140737488355328):=hlen;simp only[List.length_append,List.length_cons,List.length_nil]at hlen;have HST:Hid (∀ w' s o,o.length+s.length<=140737488355328->Hid (Wk W w w' B b KB (o) #[.int .i64 k,.string (mk x),.string (mk a),.slice ad len cap])->Calls Tryz.prog 23 #[.pointer (some ⟨b,0,none⟩),.string (mk s)] w' fun e w''=>e=.returned (.tuple #[.int .i64 (s.length:Int),.nilIface])/\Hid (Wk W w w'' B b KB (o++s) #[.int .i64 k,.string (mk x),.string (mk a),.slice ad len cap])):=fun w' s o hl h=>wk_str s h.out hl
 have HSC:Hid (∀ w' o,Hid (Wk W w w' B b KB (o) #[.int .i64 k,.string (mk x),.string (mk a),.slice ad len cap])->Calls Tryz.prog 25 #[.agg #[.int .i64 k,.string (mk x),.string (mk a),.slice ad len cap],.bool true] w' fun e w''=>e=.returned (.string (mk (scl true k x)))/\Hid (Wk W w w'' B b KB (o) #[.int .i64 k,.string (mk x),.string (mk a),.slice ad len cap])):=fun w' o h =>
  (scalar0_any true hx (HTW.out.later h.out.bl)).mono (fun e w'' g=>⟨g.1,h.out.later g.2⟩)
 generalize scl true k x=J at *;have k7:(k==7)=false:=by simp;omega
 have k5:(k==5)=false:=by simp;omega
 have k6:(k==6)=false:=by simp;omega
 clear HW HBW HI hP HTW HK hk1 hk4;by_cases h0:a=[]
 ·subst h0;have he:((mk []).toList==[])=true:=by rw[ByteArray.toList_eq,mk_data];rfl
  have hA:ancW []=[]:=rfl;rw[hA]at HLN hlen |-;go_enter Tryz.func15,Tryz.ntmps15;go_wp2_with fail;refine(HSC.out _ _ H1).mono ?_;rintro e w2 ⟨rfl,G1⟩;go_wp2_with fail;refine(HST.out _ J _ (by simp at hlen |-;omega) G1).mono ?_;rintro e w4 ⟨rfl,G3⟩;go_wp2;go_end0;exact⟨rfl,by have:=G3.out.g;simpa using this,G3.out.f⟩
 ·have he:((mk a).toList==[])=false:=by rw[ByteArray.toList_eq,mk_data];simpa using h0
  have hA:ancW a=38::(a++[32]):=if_neg h0;rw[hA]at HLN hlen |-;go_enter Tryz.func15,Tryz.ntmps15;go_wp2_with fail;rw[show ((⟨#[38]⟩:ByteArray)++mk a++⟨#[32]⟩)=mk (38::(a++[32]))from by rw[show ((⟨#[38]⟩:ByteArray)++mk a)=mk (38::a)from mk_app [38] a];exact mk_app (38::a) [32]];refine(HST.out _ (38::(a++[32])) out (by simp at hlen |-;omega) H1).mono ?_;rintro e w2 ⟨rfl,G0⟩;obtain⟨g0,g1,g2,g3⟩:=G0.out.t.c4;go_wp2_with fail;refine(HSC.out _ _ G0).mono ?_;rintro e w3 ⟨rfl,G1⟩;go_wp2_with fail;refine(HST.out _ J _ (by simp at hlen |-;omega) G1).mono ?_;rintro e w5 ⟨rfl,G3⟩;go_wp2;go_end0;exact⟨rfl,by have:=G3.out.g;simpa using this,G3.out.f⟩
end Flw
namespace Flw
open Utf Rws Pln
open Go.RowKit
theorem knd_2 (s:Ln):(decide (knd s=2))=(s==[116,114,117,101] || s==[102,97,108,115,101]):=by
 unfold knd;split
 ·rename_i h;simp only[Bool.or_eq_true,beq_iff_eq]at h;rcases h with (h | h) | h<;>subst h<;>decide
 ·split
  ·rename_i h;rw[h];rfl
  ·rename_i h;rw[Bool.not_eq_true]at h;rw[h];split<;>rfl
theorem rtx_txt (k:Int) (s:Ln):rtx k s=(decide (1<=k) && decide (k<=7) && txt k s):=by
 unfold rtx txt;by_cases h1:k=1\/k=5\/k=6\/k=7
 ·rw[if_pos h1];rcases h1 with rfl | rfl | rfl | rfl<;>simp
 rw[if_neg h1];by_cases h2:k=2
 ·subst h2;rw[if_pos (.inl rfl),if_pos rfl,knd_2];rfl
 by_cases h3:k=3
 ·subst h3;rw[if_pos (.inr rfl),if_neg h2,if_pos rfl];rfl
 by_cases h4:k=4
 ·subst h4;rw[if_neg (by omega),if_pos rfl,if_neg h2,if_neg h3,if_pos rfl];rfl
 rw[if_neg (by omega),if_neg h4];by_cases h5:1<=k
 ·rw[decide_eq_false (show ¬ k<=7 by omega),Bool.and_false,Bool.false_and]
 ·rw[decide_eq_false h5,Bool.false_and,Bool.false_and]
theorem ran_eq (k:Int) (a:Ln):ran k a=((a==[] && !decide (k=7)) || isName a):=by
 unfold ran;by_cases h:a=[]
 ·subst h;rw[if_pos rfl];simp[isName]
 ·rw[if_neg h];simp[h]
theorem rstep_ral (inner:Option (Tr->Bool)) (t:Tr):rstep inner t=true ↔ ral t.kind t.text t.anc t.kids.length=true/\(isLst t=true->∃ v,inner=some v/\(t.kind=6->keysOk 0 t.kids=true)/\∀ k∈t.kids,v k=true):=by
 constructor
 ·intro h;obtain⟨h1,h2,h3,h4,h5,h6⟩:=rstep_inv h;constructor
  ·unfold ral;rw[rtx_txt,ran_eq,decide_eq_true h1,decide_eq_true h2,h4]
   have e1:((t.anc==[] && !decide (t.kind=7)) || isName t.anc)=true:=by
    rcases h3 with ⟨e,f⟩ | e
    ·rw[e];simp[f]
    ·rw[e,Bool.or_true]
   have e2:rct t.kind t.kids.length=true:=by
    unfold rct;by_cases c5:t.kind=5
    ·rw[if_pos c5]
    by_cases c6:t.kind=6
    ·rw[if_neg c5,if_pos c6];obtain⟨v,_,hm,_⟩:=h6 (.inr c6);simpa using (hm c6).1
    ·rw[if_neg c5,if_neg c6,h5 ⟨c5,c6⟩];rfl
   rw[e1,e2];rfl
  ·intro hl;unfold isLst at hl;simp only[Bool.or_eq_true,decide_eq_true_eq]at hl;obtain⟨v,e,hm,hk⟩:=h6 hl;exact⟨v,e,fun c=>(hm c).2,hk⟩
 ·rintro⟨h1,h2⟩;unfold ral at h1;rw[rtx_txt,ran_eq]at h1;simp only[Bool.and_eq_true,decide_eq_true_eq]at h1;obtain⟨⟨⟨⟨a1,a2⟩,a3⟩,a4⟩,a5⟩:=h1;unfold rstep;rw[decide_eq_true a1,decide_eq_true a2,a3,a4];unfold rct at a5;unfold isLst at h2;by_cases c:t.kind≠5/\t.kind≠6
  ·rw[if_neg c.1,if_neg c.2]at a5;rw[if_pos c];have:t.kids=[]:=by simpa using a5
   rw[this];rfl
  ·rw[if_neg c];obtain⟨v,e,hm,hk⟩:=h2 (by simp only[Bool.or_eq_true,decide_eq_true_eq];omega);subst e;have hall:t.kids.all v=true:=List.all_eq_true.2 hk;simp only[hall,Bool.true_and,Bool.and_true];by_cases c6:t.kind=6
   ·rw[if_neg (by omega),if_pos c6]at a5;have a6:t.kids.length % 2=0:=by simpa using a5
    rw[hm c6,a6];simp
   ·simp[c6]
theorem alk_sound {f:Tr->Nat->Option Nat} {mp:Bool} {c:Tr->Nat} {v:Tr->Bool}:∀ (ks:List Tr) (i n n':Nat),(∀ k∈ks,∀ m m',f k m=some m'->v k=true/\m'=m+c k/\m'<=4096)->n<=4096->alk f mp i ks n=some n' ->
  (mp=true->keysOk i ks=true)/\(∀ k∈ks,v k=true)/\n'=n+(ks.map c).sum/\n'<=4096
 | [],i,n,n',_,hn,h=>by
  cases h;exact⟨fun _=>rfl,fun k h=>(nomatch h),by simp,hn⟩
 | k::ks,i,n,n',hf,hn,h=>by
  unfold alk at h;by_cases hc:(mp && decide (i % 2=0))=true/\kyl k.kind k.anc=false
  ·rw[if_pos hc]at h;cases h
  rw[if_neg hc]at h
  cases e:f k n with
  | none=>rw[e]at h;cases h
  | some m =>
   rw[e]at h;obtain⟨v1,v2,v3⟩:=hf k (List.mem_cons_self ..) n m e;obtain⟨w1,w2,w3,w4⟩:=alk_sound ks (i+1) m n' (fun k' hk=>hf k' (List.mem_cons_of_mem _ hk)) v3 h;refine⟨fun hm=> ?_,?_,?_,w4⟩
   ·unfold keysOk;rw[w1 hm,Bool.and_true];by_cases h2:i % 2=0
    ·have:isKey k=true:=by
      cases h3:isKey k
      ·exact absurd ⟨by rw[hm,decide_eq_true h2];rfl,h3⟩ hc
      ·rfl
     rw[this,Bool.or_true]
    ·simp[h2]
   ·intro k' hk;rcases List.mem_cons.1 hk with e | hk
    ·subst e;exact v1
    ·exact w2 k' hk
   ·rw[w3,v2,List.map_cons,List.sum_cons];omega
theorem alk_full {f:Tr->Nat->Option Nat} {mp:Bool} {c:Tr->Nat}:∀ (ks:List Tr) (i n:Nat),(∀ k∈ks,∀ m,m+c k<=4096->f k m=some (m+c k))->(mp=true->keysOk i ks=true)->n+(ks.map c).sum<=4096->alk f mp i ks n=some (n+(ks.map c).sum)
 | [],i,n,_,_,_=>by simp[alk]
 | k::ks,i,n,hf,hk,hn=>by
  rw[List.map_cons,List.sum_cons]at hn |-
  have hc: ¬ ((mp && decide (i % 2=0))=true/\kyl k.kind k.anc=false):=by
   rintro⟨h1,h2⟩;simp only[Bool.and_eq_true,decide_eq_true_eq]at h1;have:=hk h1.1;unfold keysOk at this;rw[show isKey k=false from h2]at this;simp[h1.2]at this
  unfold alk;rw[if_neg hc,hf k (List.mem_cons_self ..) n (by omega)];have:=alk_full (f:=f) (mp:=mp) (c:=c) ks (i+1) (n+c k) (fun k' hk=>hf k' (List.mem_cons_of_mem _ hk)) (fun hm=>by have:=hk hm;unfold keysOk at this;simp only[Bool.and_eq_true]at this;exact this.2) (by omega);show alk f mp (i+1) ks (n+c k)=_;rw[this];congr 1;omega
theorem kids_nil {t:Tr} (h:ral t.kind t.text t.anc t.kids.length=true) (hl: ¬ isLst t=true):t.kids=[]:=by
 unfold ral rct at h;unfold isLst at hl;simp only[Bool.or_eq_true,decide_eq_true_eq,not_or]at hl;rw[if_neg hl.1,if_neg hl.2]at h;simp only[Bool.and_eq_true,decide_eq_true_eq]at h;exact List.length_eq_zero_iff.1 h.2
theorem cnt_one (m:Nat) (t:Tr) (h:t.kids=[]):cntT m t=1:=by
 cases m with
 | zero=>rfl
 | succ m=>unfold cntT;rw[h];rfl
theorem alw_sound:∀ (m:Nat) (t:Tr) (deep n d n':Nat),deep+m=64->alw d deep t n=some n'->rgt m t=true/\n'=n+cntT m t/\n'<=4096:=by
 intro m
 induction m with
 | zero =>
  intro t deep n d n' hd h
  cases d with
  | zero=>cases h
  | succ d =>
   unfold alw at h;by_cases hc:n+1>4096\/(if isLst t=true then deep+1 else deep)>64\/ral t.kind t.text t.anc t.kids.length=false
   ·rw[if_pos hc]at h;cases h
   rw[if_neg hc]at h;simp only[not_or,Bool.not_eq_false]at hc;have hl: ¬ isLst t=true:=fun e=>by rw[if_pos e]at hc;omega
   have hk:=kids_nil hc.2.2 hl;rw[hk]at h;cases h;exact⟨(rstep_ral none t).2 ⟨hc.2.2,fun e=>absurd e hl⟩,by rw[cnt_one _ _ hk],by omega⟩
 | succ m ih =>
  intro t deep n d n' hd h
  cases d with
  | zero=>cases h
  | succ d =>
   unfold alw at h;by_cases hc:n+1>4096\/(if isLst t=true then deep+1 else deep)>64\/ral t.kind t.text t.anc t.kids.length=false
   ·rw[if_pos hc]at h;cases h
   rw[if_neg hc]at h;simp only[not_or,Bool.not_eq_false]at hc;by_cases hl:isLst t=true
   ·rw[if_pos hl]at h;obtain⟨a1,a2,a3,a4⟩:=alk_sound (c:=fun k=>cntT m k) (v:=fun k=>rgt m k) t.kids 0 (n+1) n' (fun k hk x x' hx=>ih k (deep+1) x d x' (by omega) hx) (by omega) h;refine⟨(rstep_ral _ t).2 ⟨hc.2.2,fun _=>⟨_,rfl,fun c=>a1 (decide_eq_true c),a2⟩⟩,?_,a4⟩;rw[a3];show _=n+(1+_);omega
   ·have hk:=kids_nil hc.2.2 hl;rw[hk]at h;cases h;exact⟨(rstep_ral _ t).2 ⟨hc.2.2,fun e=>absurd e hl⟩,by rw[cnt_one _ _ hk],by omega⟩
theorem alw_full:∀ (m:Nat) (t:Tr) (deep n d:Nat),deep+m=64->rgt m t=true->n+cntT m t<=4096->m<d->alw d deep t n=some (n+cntT m t):=by
 intro m
 induction m with
 | zero =>
  intro t deep n d hd h hn hm;obtain⟨d,rfl⟩:∃ e,d=e+1:=⟨d-1,by omega⟩;obtain⟨h1,h2⟩:=(rstep_ral none t).1 h;have hl: ¬ isLst t=true:=fun e=>by obtain⟨v,e,_⟩:=h2 e;cases e
  have hk:=kids_nil h1 hl;rw[cnt_one _ _ hk]at hn |-;unfold alw;rw[if_neg (by rw[if_neg hl,h1];intro h;rcases h with h | h | h<;>first | omega | exact Bool.noConfusion h),hk];rfl
 | succ m ih =>
  intro t deep n d hd h hn hm;obtain⟨d,rfl⟩:∃ e,d=e+1:=⟨d-1,by omega⟩;obtain⟨h1,h2⟩:=(rstep_ral _ t).1 h;by_cases hl:isLst t=true
  ·obtain⟨v,e,hm6,hv⟩:=h2 hl;cases e;have e1:cntT (m+1) t=1+(t.kids.map fun k=>cntT m k).sum:=rfl;rw[e1]at hn |-;unfold alw;rw[if_neg (by rw[if_pos hl,h1];intro h;rcases h with h | h | h<;>first | omega | exact Bool.noConfusion h),if_pos hl];have:=alk_full (f:=fun k x=>alw d (deep+1) k x) (mp:=decide (t.kind=6)) (c:=fun k=>cntT m k) t.kids 0 (n+1) (fun k hk x hx=>ih k (deep+1) x d (by omega) (hv k hk) hx (by omega)) (fun c=>hm6 (of_decide_eq_true c)) (by omega);rw[this];congr 1;omega
  ·have hk:=kids_nil h1 hl;rw[cnt_one _ _ hk]at hn |-;unfold alw;rw[if_neg (by rw[if_neg hl,h1];intro h;rcases h with h | h | h<;>first | omega | exact Bool.noConfusion h),hk];rfl
theorem rgh_iff {d:Nat} (hd:64<d) (t:Tr):rgh d t=(rgt 64 t && decide (cntT 64 t<=4096)):=by
 unfold rgh
 cases e:alw d 0 t 0 with
 | some n =>
  obtain⟨h1,h2,h3⟩:=alw_sound 64 t 0 0 d n (by omega) e;rw[h1,decide_eq_true (by omega)];rfl
 | none =>
  cases h1:rgt 64 t
  ·rfl
  by_cases h2:cntT 64 t<=4096
  ·rw[alw_full 64 t 0 0 d (by omega) h1 (by omega) hd]at e;cases e
  ·rw[decide_eq_false h2];rfl
end Flw
namespace Flw
open Utf Rws Pln
open Go.RowKit
theorem write_step {W:World} {B b:Nat} (hT:Tb W) (d:Nat) (f:Tr->Ln) (P:Tr->Prop) (HI:WrOk W B b d f P) (inner:Option (Tr->Bool)) (v:Value) (t:Tr) (w:World) (out:Ln) (hr:rstep inner t=true) (hbr:brief (d+1) t)
  (hP:∀ i,i<t.kids.length->P (t.kids.getD i tr0)) (h:TrV W (d+1) v t) (hb:Below W.heap.size W w) (hB:W.heap.size<=B) (hs:B<=w.heap.size) (hw:Wb B b out w) (hlen:out.length+(wstep f t).length<=140737488355328) :
  Calls Tryz.prog 15 #[.pointer (some ⟨b,0,none⟩),v] w fun e w'=>e=.returned (.tuple #[])/\Wb B b (out++wstep f t) w'/\Quo.Fr B b w w':=by
 obtain⟨r1,r2,_⟩:=rstep_inv hr;obtain⟨ad,len,cap,rfl,hl,hcp,hm,hz,hk⟩:=h;obtain⟨k,x,a,ks⟩:=t;obtain⟨b1,b2,b3⟩:=hbr;have m1:maxLen=9223372036854775807:=rfl;simp only at r1 r2 hl hz hk b1 b2 hP;by_cases h7:k=7
 ·subst h7;have e:wstep f ⟨7,x,a,ks⟩=42::a:=rfl;rw[e]at hlen |-;exact write_alias x a ad len cap W w B b b2 hb hB hs out hw hlen
 by_cases h4:k<=4
 ·have e:wstep f ⟨k,x,a,ks⟩=ancW a++scl true k x:=by
   unfold wstep;rw[if_neg h7,if_pos ⟨r1,h4⟩]
  rw[e]at hlen |-;exact write_leaf k r1 h4 x a ad len cap W w B b d ks (by omega) b1 b2 ⟨hl,hk⟩ hb hT hB hs out hw f P hP HI hlen
 by_cases h5:k=5
 ·subst h5;have e:wstep f ⟨5,x,a,ks⟩=ancW a++(91::(jn false 0 (ks.map f)++[93])):=rfl;rw[e]at hlen |-;exact write_seq x a ad len cap W w B b d ks (by omega) b1 b2 ⟨hl,hk⟩ hb hT hB hs out hw f P hP HI hlen
 ·have h6:k=6:=by omega
  subst h6;have e:wstep f ⟨6,x,a,ks⟩=ancW a++(123::(jn true 0 (ks.map f)++[125])):=rfl;rw[e]at hlen |-;exact write_map x a ad len cap W w B b d ks (by omega) b1 b2 ⟨hl,hk⟩ hb hT hB hs out hw f P hP HI hlen
theorem getD_memW (ks:List Tr) (i:Nat) (h:i<ks.length):ks.getD i tr0∈ks:=by
 rw[List.getD_eq_getElem?_getD,List.getElem?_eq_getElem h];exact List.getElem_mem h
theorem write_any {W:World} {B b:Nat} (hT:Tb W):∀ (m d:Nat),WrOk W B b d (fun t=>wrt m t) (fun t=>rgt m t=true/\brief d t):=by
 intro m
 induction m with
 | zero =>
  intro d v t w out hp h hb hB hs hw hlen
  cases d with
  | zero=>exact h.elim
  | succ d =>
   obtain⟨r,br⟩:=hp;have hr:rstep none t=true:=r;obtain⟨h1,h2⟩:=(rstep_ral none t).1 hr;have hk:=kids_nil h1 (fun e=>by obtain⟨v,e,_⟩:=h2 e;cases e);exact write_step hT d (fun _=>[]) (fun _=>False) (fun v t w out hp=>hp.elim) none v t w out hr br (fun i hi=>by rw[hk]at hi;exact absurd hi (Nat.not_lt_zero _)) h hb hB hs hw hlen
 | succ m ih =>
  intro d v t w out hp h hb hB hs hw hlen
  cases d with
  | zero=>exact h.elim
  | succ d =>
   obtain⟨r,br⟩:=hp;have hr:rstep (some fun k=>rgt m k) t=true:=r;refine write_step hT d (fun k=>wrt m k) (fun t=>rgt m t=true/\brief d t) (ih d) _ v t w out hr br (fun i hi=>⟨?_,br.2.2 i hi⟩) h hb hB hs hw hlen;obtain⟨h1,h2⟩:=(rstep_ral _ t).1 hr;by_cases hl:isLst t=true
   ·obtain⟨v,e,_,hv⟩:=h2 hl;cases e;exact hv _ (getD_memW _ _ hi)
   ·rw[kids_nil h1 hl]at hi;exact absurd hi (Nat.not_lt_zero _)
end Flw
namespace Flw
open Utf Rws Pln
open Go.RowKit
set_option maxHeartbeats 4000000
theorem Wb.fresh (w:World):Wb w.heap.size w.heap.size [] (w.alloc (.cells #[.pointer none,.slice none 0 0] 53)) :=
 .inl ⟨Nat.le_refl _,.slice none 0 0,heap_alloc_new w _,by simp[World.ownsRowF,World.ownsRow,Lib.byteCells],by simp[Value.ownBlock],fun _=>rfl⟩
theorem write_yes {d:Nat} {v:Value} {t:Tr} {w:World} (hb:brief d t) (h:TrV w d v t) (hT:Tb w) (hd:64<d) (hr:rgh d t=true) (hlen:(wrt 64 t).length<=140737488355328):Calls Tryz.prog 10 #[v] w fun e w'=>e=.returned (.tuple #[.string (mk (wrt 64 t)),.int .i64 0])/\Below w.heap.size w w':=by
 obtain⟨ad,len,cap,hv⟩:=h.open4
 have hg:rgt 64 t=true:=by
  have e:=rgh_iff hd t;rw[hr]at e;cases h1:rgt 64 t
  ·rw[h1]at e;cases e
  ·rfl
 have HR:Hid (Calls Tryz.prog 11 #[v] (w.alloc (.cells #[.int .i64 t.kind,.string (mk t.text),.string (mk t.anc),.slice ad len cap] 24)) fun e w'=>e=.returned (.bool true)/\Hid (Below w.heap.size w w'/\Bx w' w.heap.size #[.int .i64 t.kind,.string (mk t.text),.string (mk t.anc),.slice ad len cap] 24)):=by
  have b1:=below_alloc w (.cells #[.int .i64 t.kind,.string (mk t.text),.string (mk t.anc),.slice ad len cap] 24);have n1:=Bx.new w #[.int .i64 t.kind,.string (mk t.text),.string (mk t.anc),.slice ad len cap] 24;exact(right_any hb (h.later b1 (Nat.le_refl _)) (hT.later b1)).mono (fun e w' g=>⟨by rw[g.1,hr],b1.trans (g.2.mono b1.size),n1.later g.2⟩)
 have HWR:Hid (∀ w1,Below w.heap.size w w1->Calls Tryz.prog 15 #[.pointer (some ⟨w1.heap.size,0,none⟩),v] (w1.alloc (.cells #[.pointer none,.slice none 0 0] 53)) fun e w'=>e=.returned (.tuple #[])/\Hid (Wb w1.heap.size w1.heap.size (wrt 64 t) w'/\Below w.heap.size w w'/\w1.heap.size<=w'.heap.size)):=fun w1 b1=>by
  have b2:=below_alloc w1 (.cells #[.pointer none,.slice none 0 0] 53);have s2:(w1.alloc (.cells #[.pointer none,.slice none 0 0] 53)).heap.size=w1.heap.size+1:=World.size_alloc _ _;exact(write_any hT 64 d v t _ [] ⟨hg,hb⟩ h (b1.trans (b2.mono b1.size)) b1.size (by omega) (Wb.fresh w1) (by simpa using hlen)).mono (fun e w' g=>⟨g.1,g.2.1,(b1.trans (b2.mono b1.size)).trans (g.2.2.1.mono b1.size),by have:=g.2.2.1.size;omega⟩)
 have HSG:Hid (∀ B w3,Wb B B (wrt 64 t) w3->Below w.heap.size w w3->w.heap.size<=B->B<=w3.heap.size->Calls Tryz.prog 16 #[.pointer (some ⟨B,0,none⟩)] w3 fun e w'=>e=.returned (.string (mk (wrt 64 t)))/\Hid (Below w.heap.size w w')):=fun B w3 hw hb hB hs =>
  (Quo.string_any (wrt 64 t) hw hs).mono (fun e w' g=>⟨g.1,hb.trans (g.2.2.1.mono hB)⟩)
 clear hb h hT hr hg hlen;subst hv;generalize wrt 64 t=X at *;generalize t.kind=k at *;generalize t.text=x at *;generalize t.anc=a at *;go_enter Tryz.func10,Tryz.ntmps10;go_wp2_with (go_at_call 11;refine HR.out.mono ?_;rintro e w1 ⟨rfl,H1⟩;have e0:w1.cell? ⟨w.heap.size,0,none⟩=some (.int .i64 k):=H1.out.2.cell 0;have e1:w1.cell? ⟨w.heap.size,1,none⟩=some (.string (mk x)):=H1.out.2.cell 1;have e2:w1.cell? ⟨w.heap.size,2,none⟩=some (.string (mk a)):=H1.out.2.cell 2;have e3:w1.cell? ⟨w.heap.size,3,none⟩=some (.slice ad len cap):=H1.out.2.cell 3;have hlt:w.heap.size<w1.heap.size:=H1.out.2.lt);refine(HWR.out w1 H1.out.1).mono ?_;rintro e w3 ⟨rfl,H3⟩;have hB:w.heap.size<=w1.heap.size:=by omega
 generalize w1.heap.size=K at *;have HS2:=HSG.out K w3 H3.out.1 H3.out.2.1 hB H3.out.2.2;go_wp2_with fail;refine HS2.mono ?_;rintro e w4 ⟨rfl,H4⟩;go_wp2;exact bodyPost_ret (v:=.tuple #[.string (mk X),.int .i64 0]) (by simp[results,Tryz.results10,go_sem]) rfl ⟨rfl,H4.out⟩
end Flw
end Go.Proofs.YtidhpmcmbooaoaaGreatDoor
