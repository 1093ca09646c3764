/- . -/
import Derived.Test.YtidhpmcmbooaoaaGreatDoorR13PlainAny3
set_option linter.unusedSimpArgs false
set_option linter.unusedVariables false
set_option maxRecDepth 100000
namespace Go.Proofs.YtidhpmcmbooaoaaGreatDoor
namespace Pln
open Utf Rws
open Go.RowKit
theorem field0 (a b:Int) (w:World):(Instr.field 33 (.agg #[.int .i64 a,.int .i64 b]) 0).run Tryz.prog w=.ok (.int .i64 a) w:=by kernel_rfl
theorem isPrintable_any (l:List UInt8) (w:World) (hs:l.length<=140737488351232):Calls Tryz.prog 62 #[.string (mk l)] w fun e w'=>e=.returned (.bool (pri l))/\Below w.heap.size w w':=by
 have hfd:=field0;have hs':(mk l).size<=maxLen:=by rw[mk_size];unfold maxLen;omega
 have HC:=check_any (mk l) w hs';rw[mk_data]at HC
 cases hc:chk l with
 | none =>
  have HP:Hid (pri l= !anyB l):=by unfold pri;rw[hc,anyB_has];rfl
  have HCC:Hid (Calls Tryz.prog 83 #[.string (mk l)] w fun e w'=>e=.returned (.agg #[.int .i64 0,.int .i64 0])/\Below w.heap.size w w'):=by rw[hc]at HC;exact HC
  clear HC hc;go_enter Tryz.func62,Tryz.ntmps62;go_wp2_with (first | (go_at_call 83;refine HCC.out.mono ?_;rintro e w1 ⟨rfl,hb1⟩) | (go_at_call 84;refine(containsAny_any _ _ hs).mono ?_;rintro e w2 ⟨rfl,hb2⟩));go_ret;rw[HP.out];exact⟨rfl,hb1.trans (hb2.mono hb1.size)⟩
 | some p =>
  have HP:Hid (pri l=false):=by unfold pri;rw[hc];rfl
  have HCC:Hid (Calls Tryz.prog 83 #[.string (mk l)] w fun e w'=>e=.returned (.agg #[.int .i64 8,.int .i64 p])/\Below w.heap.size w w'):=by rw[hc]at HC;exact HC
  clear HC hc;go_enter Tryz.func62,Tryz.ntmps62;go_wp2_with (first | (go_at_call 83;refine HCC.out.mono ?_;rintro e w1 ⟨rfl,hb1⟩));go_ret;rw[HP.out];exact⟨rfl,hb1⟩
theorem b32n (b:UInt8):((b.toNat:Int)!=32)= !is32 b:=by rw[bne,b32]
theorem beginsPlain_any (l:List UInt8) (w:World) (hs:l.length<=140737488351232):Calls Tryz.prog 63 #[.string (mk l)] w fun e w'=>e=.returned (.bool (bg l))/\w=w':=by
 have q1:=eq_l l [];have q2:=eq_l l [45];have q3:=eq_l l [45,45,45];cases c1:(l==[])
 ·have h0:l≠[]:=by simpa using c1
  have hl:0<l.length:=List.length_pos_iff.2 h0;cases c2:(l==[45])
  ·cases c3:(l==[45,45,45])
   ·have HB:Hid (bg l=(!(l.getD 0 0==32) && !(mrk (l.getD 0 0)) && !(l.take 2==[45,32]))):=by
     unfold bg;rw[c1,c2,c3];rfl
    rw[c1]at q1;rw[c2]at q2;rw[c3]at q3;have hsz:=mk_size l;have hg:∀ h,(mk l)[0]'h=l.getD 0 0:=fun h=>mk_getD l 0 h
    have hb:=b32n (l.getD 0 0);have HM:Hid (mrk (l.getD 0 0)=has (l.getD 0 0) (⟨#[63,58,44,91,93,123,125,35,38,42,33,124,62,39,34,37,64,96]⟩:ByteArray).data.toList):=rfl;rw[show (l.getD 0 0==32)=is32 (l.getD 0 0)from rfl]at HB;clear c1 c2 c3 h0;obtain⟨V,HV⟩:∃ V,Hid ((l.take 2==[45,32])=V):=⟨_,rfl⟩;have HH:Hid (Calls Tryz.prog 52 #[.string (mk l),.string ⟨#[45,32]⟩] w fun e w'=>e=.returned (.bool V)/\w=w'):=by rw[<-HV.out];exact hasPrefix_any l w
    rw[HV.out]at HB;clear HV;generalize l.getD 0 0=b at hg hb HM HB;cases e1:is32 b
    ·rw[e1]at hb HB;cases e2:mrk b
     ·rw[e2]at HM HB;have HO:Hid (Calls Tryz.prog 85 #[.int .u8 (b.toNat:Int),.string ⟨#[63,58,44,91,93,123,125,35,38,42,33,124,62,39,34,37,64,96]⟩] w fun e w'=>e=.returned (.bool false)/\w=w'):=by rw[HM.out];exact isOneOf_any _ b w
      clear HM;go_enter Tryz.func63,Tryz.ntmps63;go_wp2_with (first | (go_at_call 85;refine HO.out.mono ?_;rintro e w' ⟨rfl,rfl⟩) | (go_at_call 52;refine HH.out.mono ?_;rintro e w' ⟨rfl,rfl⟩));go_ret;rw[HB.out];exact⟨rfl,rfl⟩
     ·rw[e2]at HM HB;have HO:Hid (Calls Tryz.prog 85 #[.int .u8 (b.toNat:Int),.string ⟨#[63,58,44,91,93,123,125,35,38,42,33,124,62,39,34,37,64,96]⟩] w fun e w'=>e=.returned (.bool true)/\w=w'):=by rw[HM.out];exact isOneOf_any _ b w
      clear HM;go_enter Tryz.func63,Tryz.ntmps63;go_wp2_with (first | (go_at_call 85;refine HO.out.mono ?_;rintro e w' ⟨rfl,rfl⟩) | (go_at_call 52;refine HH.out.mono ?_;rintro e w' ⟨rfl,rfl⟩));go_ret;rw[HB.out];exact⟨rfl,rfl⟩
    ·rw[e1]at hb HB;go_enter Tryz.func63,Tryz.ntmps63;go_wp2;go_ret;rw[HB.out];exact⟨rfl,rfl⟩
   ·have HB:Hid (bg l=false):=by unfold bg;rw[c1,c2,c3];rfl
    rw[c1]at q1;rw[c2]at q2;rw[c3]at q3;clear c1 c2 c3;go_enter Tryz.func63,Tryz.ntmps63;go_wp2;go_ret;rw[HB.out];exact⟨rfl,rfl⟩
  ·have HB:Hid (bg l=false):=by unfold bg;rw[c1,c2];rfl
   rw[c1]at q1;rw[c2]at q2;clear c1 c2 q3;go_enter Tryz.func63,Tryz.ntmps63;go_wp2;go_ret;rw[HB.out];exact⟨rfl,rfl⟩
 ·have HB:Hid (bg l=false):=by unfold bg;rw[c1];rfl
  rw[c1]at q1;clear c1 q2 q3;go_enter Tryz.func63,Tryz.ntmps63;go_wp2;go_ret;rw[HB.out];exact⟨rfl,rfl⟩
theorem bg_ne {l:List UInt8} (h:bg l=true):0<l.length:=by
 cases l with
 | nil=>unfold bg at h;simp at h
 | cons b r=>simp
theorem is_any (l:List UInt8) (f:Bool) (w:World) (hs:l.length<=140737488351232):Calls Tryz.prog 43 #[.string (mk l),.bool f] w fun e w'=>e=.returned (.bool (isP l f))/\Below w.heap.size w w':=by
 have HP:isP l f=(pri l && bg l && !(is32 (l.getD (l.length-1) 0)) && (fin l f==l.length)):=rfl;have P1:=isPrintable_any l w hs;cases e1:pri l
 ·have HE:Hid (isP l f=false):=by rw[HP,e1];rfl
  rw[e1]at P1;have HP1:Hid (Calls Tryz.prog 62 #[.string (mk l)] w fun e w'=>e=.returned (.bool false)/\Below w.heap.size w w'):=P1;clear P1 HP e1;go_enter Tryz.func43,Tryz.ntmps43;go_wp2_with (first | (go_at_call 62;refine HP1.out.mono ?_;rintro e w1 ⟨rfl,hb1⟩));go_ret;rw[HE.out];exact⟨rfl,hb1⟩
 ·rw[e1]at P1 HP;have HP1:Hid (Calls Tryz.prog 62 #[.string (mk l)] w fun e w'=>e=.returned (.bool true)/\Below w.heap.size w w'):=P1;clear P1 e1;cases e2:bg l
  ·have HE:Hid (isP l f=false):=by rw[HP,e2];rfl
   have HB:Hid (∀ w,Calls Tryz.prog 63 #[.string (mk l)] w fun e w'=>e=.returned (.bool false)/\w=w'):=fun w=>by rw[<-e2];exact beginsPlain_any l w hs
   clear HP e2;go_enter Tryz.func43,Tryz.ntmps43;go_wp2_with (first | (go_at_call 62;refine HP1.out.mono ?_;rintro e w1 ⟨rfl,hb1⟩) | (go_at_call 63;refine(HB.out _).mono ?_;rintro e w' ⟨rfl,rfl⟩));go_ret;rw[HE.out];exact⟨rfl,hb1⟩
  ·have hl:=bg_ne e2;have HB:Hid (∀ w,Calls Tryz.prog 63 #[.string (mk l)] w fun e w'=>e=.returned (.bool true)/\w=w'):=fun w=>by rw[<-e2];exact beginsPlain_any l w hs
   rw[e2]at HP;clear e2;obtain⟨m,hm⟩:∃ m,l.length=m+1:=⟨l.length-1,by omega⟩;have hsz:(mk l).size=m+1:=by rw[mk_size];exact hm
   have hg:∀ h,(mk l)[m]'h=l.getD m 0:=fun h=>mk_getD l m h
   have hb:=b32n (l.getD m 0);rw[show l.length-1=m by omega]at HP;have hmb:m+1<=140737488351232:=by omega
   have hsl:l.length<=562949953421312:=by omega
   cases e3:is32 (l.getD m 0)
   ·rw[e3]at hb HP;generalize l.getD m 0=b at hg hb
    have HQ:Hid (isP l f=((fin l f:Int)==((m:Int)+1))):=by
     have e:(fin l f==m+1)=((fin l f:Int)==((m:Int)+1)):=by rw[Bool.eq_iff_iff,beq_iff_eq,beq_iff_eq];omega
     rw[HP,hm,e];rfl
    clear HP;have HL:Hid (l.length=m+1):=hm;clear hm hl;go_enter Tryz.func43,Tryz.ntmps43;go_wp2_with (first | (go_at_call 62;refine HP1.out.mono ?_;rintro e w1 ⟨rfl,hb1⟩) | (go_at_call 63;refine(HB.out _).mono ?_;rintro e w' ⟨rfl,rfl⟩) | (go_at_call 64;refine(end_any _ _ _ hsl).mono ?_;rintro e w2 ⟨rfl,hb2⟩));go_ret;rw[HQ.out];exact⟨rfl,hb1.trans (hb2.mono hb1.size)⟩
   ·have HE:Hid (isP l f=false):=by rw[HP,e3];rfl
    rw[e3]at hb;clear HP e3;generalize l.getD m 0=b at hg hb;have HL:Hid (l.length=m+1):=hm;clear hm hl;go_enter Tryz.func43,Tryz.ntmps43;go_wp2_with (first | (go_at_call 62;refine HP1.out.mono ?_;rintro e w1 ⟨rfl,hb1⟩) | (go_at_call 63;refine(HB.out _).mono ?_;rintro e w' ⟨rfl,rfl⟩));go_ret;rw[HE.out];exact⟨rfl,hb1⟩
end Pln
end Go.Proofs.YtidhpmcmbooaoaaGreatDoor
