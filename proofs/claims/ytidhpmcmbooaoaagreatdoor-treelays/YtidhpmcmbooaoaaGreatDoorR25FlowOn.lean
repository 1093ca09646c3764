/- . -/
import Derived.Test.YtidhpmcmbooaoaaGreatDoorR24FlowScal
import Derived.BigQuiet
import Derived.Deep.QuietTactic
set_option linter.unusedSimpArgs false
set_option linter.unusedVariables false
set_option maxRecDepth 100000
namespace Go.Proofs.YtidhpmcmbooaoaaGreatDoor
namespace Flw
open Utf Rws Pln
open Go.RowKit
set_option maxHeartbeats 4000000
variable {b p dp:Nat} {s:Ln} {w w1 w2:World}
structure QW (W:World) where
 w:World
 h:Below W.heap.size W w
theorem wp_region_class {P:Program} {id:Nat} {Q:Exit->Act->World->Prop} {a:Act} {w:World} {l:List Oper} (hm:P.follows .mixedOrders=true) (hB:Region.lexB .any l.toArray=true)
  (h:wpQuiet P l.toArray (fun w'=>∃ q:QW w,w'=q.w) (fun a'=>∀ w',(∃ q:QW w,w'=q.w)->Q .normal a' w') l a):(Code.region id l.toArray true).wp P Q a w :=
 wp_region_quiet (C:=fun w'=>∃ q:QW w,w'=q.w) hm hB ⟨⟨w.drew,(Below.refl _ w).drew⟩,rfl⟩ (by simpa using h)
theorem calls_class {P:Program} {f:FuncId} {args:Array Value} {W:World} {v:Value} (q:QW W) (h:Calls P f args q.w fun e w'=>e=.returned v/\Below q.w.heap.size q.w w'):Calls P f args q.w fun e w'=>e=.returned v/\∃ q':QW W,w'=q'.w :=
 h.mono fun _ w' ⟨he,hb⟩=>⟨he,⟨w',q.h.trans (hb.mono q.h.size)⟩,rfl⟩
theorem isList_any (k:Int) (x a:ByteArray) (ad:Option Addr) (len cap:Nat) (w:World) :
  Calls Tryz.prog 26 #[.agg #[.int .i64 k,.string x,.string a,.slice ad len cap]] w fun e w'=>e=.returned (.bool (decide (k=5) || decide (k=6)))/\Below w.heap.size w w':=by
 by_cases h5:k=5
 ·subst h5;go_enter Tryz.func26,Tryz.ntmps26;go_wp2;go_ret;exact⟨rfl,below_alloc _ _⟩
 by_cases h6:k=6
 ·subst h6;go_enter Tryz.func26,Tryz.ntmps26;go_wp2;go_ret;exact⟨rfl,below_alloc _ _⟩
 ·have e5:(k==5)=false:=by simpa using h5
  have e6:(k==6)=false:=by simpa using h6
  go_enter Tryz.func26,Tryz.ntmps26;go_wp2;go_ret;exact⟨by simp[h5,h6],below_alloc _ _⟩
theorem takesColon_eq (s:Ln) (p:Nat):(decide (fin (gaps (s.drop p)) true=0) && see s p [58])=colon (gaps (s.drop p)):=by
 rw[see_hd s p (by decide)];generalize gaps (s.drop p)=g
 cases g with
 | nil=>rfl
 | cons c r =>
  unfold colon;show _=(c==58 && _);by_cases h:c=58
  ·subst h
   have hen:en (58::r) true 0=(decide ((58::r:Ln).length<=1) || hd ((58::r:Ln).drop 1)==32 || fl (hd ((58::r:Ln).drop 1))):=by
    cases r with
    | nil=>rfl
    | cons d r =>
     unfold en;simp[hd]
   have hf:decide (fin (58::r) true=0)=en (58::r) true 0:=by
    cases h1:en (58::r) true 0 with
    | true =>
     rw[decide_eq_true];exact fin_uniq _ _ 0 (Nat.zero_le _) (fun j hj=>absurd hj (Nat.not_lt_zero j)) (.inr h1)
    | false =>
     rw[decide_eq_false];intro e;have:=fin_at (58::r) true (by rw[e];simp);rw[e,h1]at this;cases this
   rw[hf,hen];simp[hd]
  ·have h1:(c==58)=false:=by simpa using h
   have h2:decide (hd (c::r)=58)=false:=by rw[decide_eq_false];exact h
   rw[h1,h2];simp
def ColRes (b:Nat) (s:Ln) (p dp:Nat) (w:World) (c:Bool) (e:Ending) (w':World):Prop:=e=.returned (.bool c)/\Fr b w w'/\Rd w' b s (if c=true then nx s p+1 else p) dp
theorem takesColon_any (h:Rd w b s p dp) (hp:p<=s.length) (hs:s.length<=65536) :
  Calls Tryz.prog 188 #[.pointer (some ⟨b,0,none⟩)] w fun e w'=>ColRes b s p dp w (colon (gaps (s.drop p))) e w':=by
 have hlt:=h.lt;have hsz:=mk_size s;have hn:=nx_le s p;have hex:(mk s).extract (nx s p) s.length=mk (gaps (s.drop p)):=by rw[mk_ext,drop_nx s hp,List.take_of_length_le (by rw[gaps_nx s hp];omega)]
 have hgl:=gaps_nx s hp;have c0:=h.c0;have HC:=takesColon_eq s p;have HN:Hid (∀ q:QW w,Calls Tryz.prog 164 #[.pointer (some ⟨b,0,none⟩)] q.w fun e w'=>e=.returned (.int .i64 (nx s p:Nat))/\Below q.w.heap.size q.w w'):=fun q=>(next_any (h.later q.h) hp hs).mono (fun e w' h'=>⟨h'.1,by obtain⟨n,rfl⟩:=h'.2;exact below_drewN (Below.refl _ _) n⟩)
 have HCU:Hid (∀ q:QW w,Calls Tryz.prog 101 #[.string (mk (gaps (s.drop p))),.bool true] q.w fun e w'=>e=.returned (.tuple #[.string (mk (cutT (gaps (s.drop p)) true)),.int .i64 (fin (gaps (s.drop p)) true)])/\Below q.w.heap.size q.w w'):=fun q=>cut_any _ true _ (by omega)
 have x0:∀ q:QW w,q.w.cell? ⟨b,0,none⟩=some (.string (mk s)):=fun q=>(h.later q.h).c0
 have HQ:Hid (∀ q:QW w,Rd q.w b s p dp/\Fr b w q.w):=fun q=>⟨h.later q.h,Fr.of q.h hlt⟩
 have HTY:Hid (∀ q:QW w,see s p [58]=true->Calls Tryz.prog 135 #[.pointer (some ⟨b,0,none⟩),.string ⟨#[58]⟩] q.w fun e w'=>e=.returned (.bool true)/\Hid (Rd w' b s (nx s p+1) dp/\Fr b w w')):=fun q hc=>(takes_yes [58] (h.later q.h) hp hs (by decide) hc).mono (fun e w' h'=>⟨h'.1,h'.2.1,(Fr.of q.h hlt).trans h'.2.2⟩)
 have HTN:Hid (∀ q:QW w,see s p [58]=false->Calls Tryz.prog 135 #[.pointer (some ⟨b,0,none⟩),.string ⟨#[58]⟩] q.w fun e w'=>e=.returned (.bool false)/\Hid (Rd w' b s p dp/\Fr b w w')):=fun q hc=>(takes_no [58] (h.later q.h) hp hs (by decide) hc).mono (fun e w' h'=>⟨h'.1,by obtain⟨n,rfl⟩:=h'.2;exact⟨(h.later q.h).drew n,Fr.of (below_drewN q.h n) hlt⟩⟩)
 have hNE:Nonempty (QW w):=⟨⟨w,Below.refl _ _⟩⟩;have HCO:Hid ((decide (fin (gaps (s.drop p)) true=0) && see s p [58])=colon (gaps (s.drop p))):=HC;clear HC c0 h;generalize colon (gaps (s.drop p))=CL at *;generalize fin (gaps (s.drop p)) true=FN at *;generalize cutT (gaps (s.drop p)) true=CT at *;generalize see s p [58]=SE at *;generalize mk (gaps (s.drop p))=X at *;go_enter Tryz.func188,Tryz.ntmps188;go_wp2_with fail;refine wp_region_class (by kernel_rfl) (by kernel_rfl) ?_
 repeat (go_big_quiet_step (first
  | (go_at_call 164;refine calls_class _ (HN.out _))
  | (go_at_call 101;refine calls_class _ (HCU.out _))))
 refine wpQuiet_nil ?_;intro _ hw';obtain⟨q,hw''⟩:=hw';subst hw'';clear x0 HN HCU;by_cases e0:FN=0
 ·subst e0;cases SE
  ·have hCL:CL=false:=HCO.out.symm;subst hCL;go_wp2_with (go_at_call 135;refine(HTN.out q rfl).mono ?_;rintro e w5 ⟨rfl,h5⟩);go_ret;exact⟨rfl,h5.out.2,h5.out.1⟩
  ·have hCL:CL=true:=HCO.out.symm;subst hCL;go_wp2_with (go_at_call 135;refine(HTY.out q rfl).mono ?_;rintro e w5 ⟨rfl,h5⟩);go_ret;exact⟨rfl,h5.out.2,h5.out.1⟩
 ·have hCL:CL=false:=by have:=HCO.out;rw[decide_eq_false e0]at this;exact this.symm
  subst hCL;have hfe:((FN:Int)==0)=false:=by rw[beq_eq_false_iff_ne];omega
  go_wp2;go_ret;exact⟨rfl,(HQ.out q).2,(HQ.out q).1⟩
def toldV (k:Int) (x a:ByteArray) (sl:Value) (l:Ln) (g:Int):Value :=
 if k=5\/k=6 then .agg #[.int .i64 k,.string x,.string a,sl]else if g=4 then lfV 4 l []else lfV (knd l) (if knd l=1 then []else l) []
theorem retold_any (k:Int) (x a:ByteArray) (ad:Option Addr) (len cap:Nat) (l:Ln) (g:Int) (hl:l.length<=65536) (hT:Tb w) :
  Calls Tryz.prog 172 #[.agg #[.int .i64 k,.string x,.string a,.slice ad len cap],.string (mk l),.int .i64 g] w fun e w'=>e=.returned (toldV k x a (.slice ad len cap) l g)/\Below w.heap.size w w':=by
 have b1:=below_alloc w (.cells #[.int .i64 k,.string x,.string a,.slice ad len cap] 24);have b2:=below_alloc (w.alloc (.cells #[.int .i64 k,.string x,.string a,.slice ad len cap] 24)) (.cells zT 24);have e1:(w.alloc (.cells #[.int .i64 k,.string x,.string a,.slice ad len cap] 24)).heap.size=w.heap.size+1:=by simp
 have x1:=Bx.new (w.alloc (.cells #[.int .i64 k,.string x,.string a,.slice ad len cap] 24)) zT 24;rw[e1]at x1;have x0:=(Bx.new w #[.int .i64 k,.string x,.string a,.slice ad len cap] 24).later b2;have hB:=b1.trans (b2.mono (by rw[e1];omega));obtain⟨W,hW⟩:∃ W,(w.alloc (.cells #[.int .i64 k,.string x,.string a,.slice ad len cap] 24)).alloc (.cells zT 24)=W:=⟨_,rfl⟩;rw[hW]at x0 x1 hB;have HIL:Hid (Calls Tryz.prog 26 #[.agg #[.int .i64 k,.string x,.string a,.slice ad len cap]] W fun e w'=>e=.returned (.bool (decide (k=5) || decide (k=6)))/\Hid (Bx w' w.heap.size #[.int .i64 k,.string x,.string a,.slice ad len cap] 24/\Bx w' (w.heap.size+1) zT 24/\Below w.heap.size w w')):=(isList_any k x a ad len cap W).mono (fun e w' h=>⟨h.1,x0.later h.2,x1.later h.2,hB.trans (h.2.mono hB.size)⟩);go_enter Tryz.func172,Tryz.ntmps172;go_wp2_with fail;change Calls _ _ _ ((w.alloc (.cells #[.int .i64 k,.string x,.string a,.slice ad len cap] 24)).alloc (.cells zT 24)) _;rw[hW];have hK1w:w.heap.size<=w.heap.size+1:=by omega
 clear b1 b2 e1 x0 x1 hB hW;by_cases h5:k=5\/k=6
 ·have HV:Hid (toldV k x a (.slice ad len cap) l g=.agg #[.int .i64 k,.string x,.string a,.slice ad len cap]):=by unfold toldV;rw[if_pos h5];exact rfl
  have hbl:(decide (k=5) || decide (k=6))=true:=by rcases h5 with h5 | h5<;>simp[h5]
  rw[hbl]at HIL;refine HIL.out.mono ?_;rintro e w3 ⟨rfl,h3⟩;generalize hK1:w.heap.size+1=K1 at h3 hK1w |-;generalize hK0:w.heap.size=K0 at h3 |-;obtain⟨c0,c1,c2,c3⟩:=h3.out.1.c4;have H1:Hid (Bx w3 K1 zT 24):=h3.out.2.1;have HB3:Hid (Below w.heap.size w w3):=by rw[hK0];exact h3.out.2.2
  clear h3;replace hK1w:Hid (w.heap.size<=K1):=hK1w;clear hK0 hK1;obtain⟨X0,X1,X2,X3⟩:=H1.out.c4;have Z0:=H1.out.fz 0;have Z1:=H1.out.fz 1;have Z2:=H1.out.fz 2;have Z3:=H1.out.fz 3;go_wp2;replace hK1w:=hK1w.out;have hO:=H1.out.fill4 rfl (.int .i64 k) (.string x) (.string a) (.slice ad len cap);have hOB:=below_fill4 HB3.out hK1w (.int .i64 k) (.string x) (.string a) (.slice ad len cap);change bodyPost _ _ _ _ _ (fill4 w3 K1 (.int .i64 k) (.string x) (.string a) (.slice ad len cap));generalize fill4 w3 K1 (.int .i64 k) (.string x) (.string a) (.slice ad len cap)=WF at hO hOB |-;have j0:=hO.cell 0;have j1:=hO.cell 1;have j2:=hO.cell 2;have j3:=hO.cell 3;refine bodyPost_ret (v:=.agg #[.int .i64 k,.string x,.string a,.slice ad len cap]) (by simp[results,Tryz.results172,go_sem,j0,j1,j2,j3]) rfl ?_;exact⟨by rw[HV.out],hOB⟩
 ·have hbl:(decide (k=5) || decide (k=6))=false:=by simpa [not_or]using h5
  rw[hbl]at HIL;by_cases h4:g=4
  ·have HV:Hid (toldV k x a (.slice ad len cap) l g=lfV 4 l []):=by unfold toldV;rw[if_neg h5,if_pos h4];exact rfl
   subst h4;refine HIL.out.mono ?_;rintro e w3 ⟨rfl,h3⟩;generalize hK1:w.heap.size+1=K1 at h3 hK1w |-;generalize hK0:w.heap.size=K0 at h3 |-;have H1:Hid (Bx w3 K1 zT 24):=h3.out.2.1;have HB3:Hid (Below w.heap.size w w3):=by rw[hK0];exact h3.out.2.2
   clear h3;replace hK1w:Hid (w.heap.size<=K1):=hK1w;clear hK0 hK1;obtain⟨X0,X1,X2,X3⟩:=H1.out.c4;have Z0:=H1.out.fz 0;have Z1:=H1.out.fz 1;have Z2:=H1.out.fz 2;have Z3:=H1.out.fz 3;go_wp2;replace hK1w:=hK1w.out;have hO:=H1.out.fill4 rfl (.int .i64 4) (.string (mk l)) (.string ⟨#[]⟩) (.slice none 0 0);have hOB:=below_fill4 HB3.out hK1w (.int .i64 4) (.string (mk l)) (.string ⟨#[]⟩) (.slice none 0 0);change bodyPost _ _ _ _ _ (fill4 w3 K1 (.int .i64 4) (.string (mk l)) (.string ⟨#[]⟩) (.slice none 0 0));generalize fill4 w3 K1 (.int .i64 4) (.string (mk l)) (.string ⟨#[]⟩) (.slice none 0 0)=WF at hO hOB |-;have j0:=hO.cell 0;have j1:=hO.cell 1;have j2:=hO.cell 2;have j3:=hO.cell 3;refine bodyPost_ret (v:=.agg #[.int .i64 4,.string (mk l),.string ⟨#[]⟩,.slice none 0 0]) (by simp[results,Tryz.results172,go_sem,j0,j1,j2,j3]) rfl ?_;exact⟨by rw[HV.out];rfl,hOB⟩
  ·have HV:Hid (toldV k x a (.slice ad len cap) l g=lfV (knd l) (if knd l=1 then []else l) []):=by unfold toldV;rw[if_neg h5,if_neg h4];exact rfl
   have hge:(g==4)=false:=by simpa using h4
   refine HIL.out.mono ?_;rintro e w3 ⟨rfl,h3⟩;have HPT:Hid (Calls Tryz.prog 191 #[.string (mk l)] w3 fun e w'=>e=.returned (.agg #[.int .i64 (knd l),.string (mk (if knd l=1 then []else l)),.string (mk []),.slice none 0 0])/\Hid (Bx w' (w.heap.size+1) zT 24/\Below w.heap.size w w')):=(plainTree_any l hl (hT.later h3.out.2.2)).mono (fun e w' h=>⟨h.1,h3.out.2.1.later h.2,h3.out.2.2.trans (h.2.mono h3.out.2.2.size)⟩);clear h3;generalize (if knd l=1 then []else l)=tx at *;generalize knd l=kx at *;go_wp2_with fail;refine HPT.out.mono ?_;rintro e w4 ⟨rfl,h4'⟩;generalize hK1:w.heap.size+1=K1 at h4' hK1w |-;have H1:Hid (Bx w4 K1 zT 24):=h4'.out.1;have HB3:Hid (Below w.heap.size w w4):=h4'.out.2;clear h4';replace hK1w:Hid (w.heap.size<=K1):=hK1w;clear hK1;obtain⟨X0,X1,X2,X3⟩:=H1.out.c4;have Z0:=H1.out.fz 0;have Z1:=H1.out.fz 1;have Z2:=H1.out.fz 2;have Z3:=H1.out.fz 3;go_wp2;replace hK1w:=hK1w.out;have hO:=H1.out.fill4 rfl (.int .i64 kx) (.string (mk tx)) (.string (mk [])) (.slice none 0 0);have hOB:=below_fill4 HB3.out hK1w (.int .i64 kx) (.string (mk tx)) (.string (mk [])) (.slice none 0 0);change bodyPost _ _ _ _ _ (fill4 w4 K1 (.int .i64 kx) (.string (mk tx)) (.string (mk [])) (.slice none 0 0));generalize fill4 w4 K1 (.int .i64 kx) (.string (mk tx)) (.string (mk [])) (.slice none 0 0)=WF at hO hOB |-;have j0:=hO.cell 0;have j1:=hO.cell 1;have j2:=hO.cell 2;have j3:=hO.cell 3;refine bodyPost_ret (v:=.agg #[.int .i64 kx,.string (mk tx),.string (mk []),.slice none 0 0]) (by simp[results,Tryz.results172,go_sem,j0,j1,j2,j3]) rfl ?_;exact⟨by rw[HV.out];rfl,hOB⟩
def okV (k:Value) (x a sl:Value):Value:=.tuple #[.agg #[k,x,a,sl],f0]
def erV (T:Nat):Value:=.tuple #[.agg zT,.agg #[.int .i64 12,.int .i64 (T:Int)]]
end Flw
end Go.Proofs.YtidhpmcmbooaoaaGreatDoor
