/- . -/
import Derived.Test.YtalijhclfppohaaGreatDoorR11FlowScal
import Derived.BigQuiet
import Derived.Deep.QuietTactic
import Derived.Test.YtalijhclfppohaaGreatDoorR08UtfConv
import Derived.Maps.AppendAt
import Derived.Test.YtalijhclfppohaaGreatDoorR03FlowMem
import Derived.Deep.RegionWith
set_option linter.unusedSimpArgs false
set_option linter.unusedVariables false
set_option maxRecDepth 100000
namespace Go.Proofs.YtalijhclfppohaaGreatDoor
namespace Flw
open Utf Rws Pln
open Go.RowKit
set_option maxHeartbeats 4000000
variable {b p dp:Nat} {s:Ln} {w w1 w2:World}
structure QW (W:World) where
 w:World
 h:Below W.heap.size W w
theorem wp_region_class {P:Program} {id:Nat} {Q:Exit->Act->World->Prop} {a:Act} {w:World} {l:List Oper} (hm:P.follows .mixedOrders=true) (hB:Region.lexB .any l.toArray=true)
  (h:wpQuiet P l.toArray (fun w'=>∃ q:QW w,w'=q.w) (fun a'=>∀ w',(∃ q:QW w,w'=q.w)->Q .normal a' w') l a):(Code.region id l.toArray true).wp P Q a w :=
 wp_region_quiet (C:=fun w'=>∃ q:QW w,w'=q.w) hm hB ⟨⟨w.drew,(Below.refl _ w).drew⟩,rfl⟩ (by simpa using h)
theorem calls_class {P:Program} {f:FuncId} {args:Array Value} {W:World} {v:Value} (q:QW W) (h:Calls P f args q.w fun e w'=>e=.returned v/\Below q.w.heap.size q.w w'):Calls P f args q.w fun e w'=>e=.returned v/\∃ q':QW W,w'=q'.w :=
 h.mono fun _ w' ⟨he,hb⟩=>⟨he,⟨w',q.h.trans (hb.mono q.h.size)⟩,rfl⟩
theorem isList_any (k:Int) (x a:ByteArray) (ad:Option Addr) (len cap:Nat) (w:World) :
  Calls Tryz.prog 73 #[.agg #[.int .i64 k,.string x,.string a,.slice ad len cap]] w fun e w'=>e=.returned (.bool (decide (k=5) || decide (k=6)))/\Below w.heap.size w w':=by
 by_cases h5:k=5
 ·subst h5;go_enter Tryz.func73,Tryz.ntmps73;go_wp2;go_ret;exact⟨rfl,below_alloc _ _⟩
 by_cases h6:k=6
 ·subst h6;go_enter Tryz.func73,Tryz.ntmps73;go_wp2;go_ret;exact⟨rfl,below_alloc _ _⟩
 ·have e5:(k==5)=false:=by simpa using h5
  have e6:(k==6)=false:=by simpa using h6
  go_enter Tryz.func73,Tryz.ntmps73;go_wp2;go_ret;exact⟨by simp[h5,h6],below_alloc _ _⟩
theorem takesColon_eq (s:Ln) (p:Nat):(decide (fin (gaps (s.drop p)) true=0) && see s p [58])=colon (gaps (s.drop p)):=by
 rw[see_hd s p (by decide)];generalize gaps (s.drop p)=g
 cases g with
 | nil=>rfl
 | cons c r =>
  unfold colon;show _=(c==58 && _);by_cases h:c=58
  ·subst h
   have hen:en (58::r) true 0=(decide ((58::r:Ln).length<=1) || hd ((58::r:Ln).drop 1)==32 || fl (hd ((58::r:Ln).drop 1))):=by
    cases r with
    | nil=>rfl
    | cons d r =>
     unfold en;simp[hd]
   have hf:decide (fin (58::r) true=0)=en (58::r) true 0:=by
    cases h1:en (58::r) true 0 with
    | true =>
     rw[decide_eq_true];exact fin_uniq _ _ 0 (Nat.zero_le _) (fun j hj=>absurd hj (Nat.not_lt_zero j)) (.inr h1)
    | false =>
     rw[decide_eq_false];intro e;have:=fin_at (58::r) true (by rw[e];simp);rw[e,h1]at this;cases this
   rw[hf,hen];simp[hd]
  ·have h1:(c==58)=false:=by simpa using h
   have h2:decide (hd (c::r)=58)=false:=by rw[decide_eq_false];exact h
   rw[h1,h2];simp
def ColRes (b:Nat) (s:Ln) (p dp:Nat) (w:World) (c:Bool) (e:Ending) (w':World):Prop:=e=.returned (.bool c)/\Fr b w w'/\Rd w' b s (if c=true then nx s p+1 else p) dp
theorem takesColon_any (h:Rd w b s p dp) (hp:p<=s.length) (hs:s.length<=65536) :
  Calls Tryz.prog 189 #[.pointer (some ⟨b,0,none⟩)] w fun e w'=>ColRes b s p dp w (colon (gaps (s.drop p))) e w':=by
 have hlt:=h.lt;have hsz:=mk_size s;have hn:=nx_le s p;have hex:(mk s).extract (nx s p) s.length=mk (gaps (s.drop p)):=by rw[mk_ext,drop_nx s hp,List.take_of_length_le (by rw[gaps_nx s hp];omega)]
 have hgl:=gaps_nx s hp;have c0:=h.c0;have HC:=takesColon_eq s p;have HN:Hid (∀ q:QW w,Calls Tryz.prog 165 #[.pointer (some ⟨b,0,none⟩)] q.w fun e w'=>e=.returned (.int .i64 (nx s p:Nat))/\Below q.w.heap.size q.w w'):=fun q=>(next_any (h.later q.h) hp hs).mono (fun e w' h'=>⟨h'.1,by obtain⟨n,rfl⟩:=h'.2;exact below_drewN (Below.refl _ _) n⟩)
 have HCU:Hid (∀ q:QW w,Calls Tryz.prog 127 #[.string (mk (gaps (s.drop p))),.bool true] q.w fun e w'=>e=.returned (.tuple #[.string (mk (cutT (gaps (s.drop p)) true)),.int .i64 (fin (gaps (s.drop p)) true)])/\Below q.w.heap.size q.w w'):=fun q=>cut_any _ true _ (by omega)
 have x0:∀ q:QW w,q.w.cell? ⟨b,0,none⟩=some (.string (mk s)):=fun q=>(h.later q.h).c0
 have HQ:Hid (∀ q:QW w,Rd q.w b s p dp/\Fr b w q.w):=fun q=>⟨h.later q.h,Fr.of q.h hlt⟩
 have HTY:Hid (∀ q:QW w,see s p [58]=true->Calls Tryz.prog 147 #[.pointer (some ⟨b,0,none⟩),.string ⟨#[58]⟩] q.w fun e w'=>e=.returned (.bool true)/\Hid (Rd w' b s (nx s p+1) dp/\Fr b w w')):=fun q hc=>(takes_yes [58] (h.later q.h) hp hs (by decide) hc).mono (fun e w' h'=>⟨h'.1,h'.2.1,(Fr.of q.h hlt).trans h'.2.2⟩)
 have HTN:Hid (∀ q:QW w,see s p [58]=false->Calls Tryz.prog 147 #[.pointer (some ⟨b,0,none⟩),.string ⟨#[58]⟩] q.w fun e w'=>e=.returned (.bool false)/\Hid (Rd w' b s p dp/\Fr b w w')):=fun q hc=>(takes_no [58] (h.later q.h) hp hs (by decide) hc).mono (fun e w' h'=>⟨h'.1,by obtain⟨n,rfl⟩:=h'.2;exact⟨(h.later q.h).drew n,Fr.of (below_drewN q.h n) hlt⟩⟩)
 have hNE:Nonempty (QW w):=⟨⟨w,Below.refl _ _⟩⟩;have HCO:Hid ((decide (fin (gaps (s.drop p)) true=0) && see s p [58])=colon (gaps (s.drop p))):=HC;clear HC c0 h;generalize colon (gaps (s.drop p))=CL at *;generalize fin (gaps (s.drop p)) true=FN at *;generalize cutT (gaps (s.drop p)) true=CT at *;generalize see s p [58]=SE at *;generalize mk (gaps (s.drop p))=X at *;go_enter Tryz.func189,Tryz.ntmps189;go_wp2_with fail;refine wp_region_class (by kernel_rfl) (by kernel_rfl) ?_
 repeat (go_big_quiet_step (first
  | (go_at_call 165;refine calls_class _ (HN.out _))
  | (go_at_call 127;refine calls_class _ (HCU.out _))))
 refine wpQuiet_nil ?_;intro _ hw';obtain⟨q,hw''⟩:=hw';subst hw'';clear x0 HN HCU;by_cases e0:FN=0
 ·subst e0;cases SE
  ·have hCL:CL=false:=HCO.out.symm;subst hCL;go_wp2_with (go_at_call 147;refine(HTN.out q rfl).mono ?_;rintro e w5 ⟨rfl,h5⟩);go_ret;exact⟨rfl,h5.out.2,h5.out.1⟩
  ·have hCL:CL=true:=HCO.out.symm;subst hCL;go_wp2_with (go_at_call 147;refine(HTY.out q rfl).mono ?_;rintro e w5 ⟨rfl,h5⟩);go_ret;exact⟨rfl,h5.out.2,h5.out.1⟩
 ·have hCL:CL=false:=by have:=HCO.out;rw[decide_eq_false e0]at this;exact this.symm
  subst hCL;have hfe:((FN:Int)==0)=false:=by rw[beq_eq_false_iff_ne];omega
  go_wp2;go_ret;exact⟨rfl,(HQ.out q).2,(HQ.out q).1⟩
def toldV (k:Int) (x a:ByteArray) (sl:Value) (l:Ln) (g:Int):Value :=
 if k=5\/k=6 then .agg #[.int .i64 k,.string x,.string a,sl]else if g=4 then lfV 4 l []else lfV (knd l) (if knd l=1 then []else l) []
theorem retold_any (k:Int) (x a:ByteArray) (ad:Option Addr) (len cap:Nat) (l:Ln) (g:Int) (hl:l.length<=65536) (hT:Tb w) :
  Calls Tryz.prog 173 #[.agg #[.int .i64 k,.string x,.string a,.slice ad len cap],.string (mk l),.int .i64 g] w fun e w'=>e=.returned (toldV k x a (.slice ad len cap) l g)/\Below w.heap.size w w':=by
 have b1:=below_alloc w (.cells #[.int .i64 k,.string x,.string a,.slice ad len cap] 35);have b2:=below_alloc (w.alloc (.cells #[.int .i64 k,.string x,.string a,.slice ad len cap] 35)) (.cells zT 35);have e1:(w.alloc (.cells #[.int .i64 k,.string x,.string a,.slice ad len cap] 35)).heap.size=w.heap.size+1:=by simp
 have x1:=Bx.new (w.alloc (.cells #[.int .i64 k,.string x,.string a,.slice ad len cap] 35)) zT 35;rw[e1]at x1;have x0:=(Bx.new w #[.int .i64 k,.string x,.string a,.slice ad len cap] 35).later b2;have hB:=b1.trans (b2.mono (by rw[e1];omega));obtain⟨W,hW⟩:∃ W,(w.alloc (.cells #[.int .i64 k,.string x,.string a,.slice ad len cap] 35)).alloc (.cells zT 35)=W:=⟨_,rfl⟩;rw[hW]at x0 x1 hB;have HIL:Hid (Calls Tryz.prog 73 #[.agg #[.int .i64 k,.string x,.string a,.slice ad len cap]] W fun e w'=>e=.returned (.bool (decide (k=5) || decide (k=6)))/\Hid (Bx w' w.heap.size #[.int .i64 k,.string x,.string a,.slice ad len cap] 35/\Bx w' (w.heap.size+1) zT 35/\Below w.heap.size w w')):=(isList_any k x a ad len cap W).mono (fun e w' h=>⟨h.1,x0.later h.2,x1.later h.2,hB.trans (h.2.mono hB.size)⟩);go_enter Tryz.func173,Tryz.ntmps173;go_wp2_with fail;change Calls _ _ _ ((w.alloc (.cells #[.int .i64 k,.string x,.string a,.slice ad len cap] 35)).alloc (.cells zT 35)) _;rw[hW];have hK1w:w.heap.size<=w.heap.size+1:=by omega
 clear b1 b2 e1 x0 x1 hB hW;by_cases h5:k=5\/k=6
 ·have HV:Hid (toldV k x a (.slice ad len cap) l g=.agg #[.int .i64 k,.string x,.string a,.slice ad len cap]):=by unfold toldV;rw[if_pos h5];exact rfl
  have hbl:(decide (k=5) || decide (k=6))=true:=by rcases h5 with h5 | h5<;>simp[h5]
  rw[hbl]at HIL;refine HIL.out.mono ?_;rintro e w3 ⟨rfl,h3⟩;generalize hK1:w.heap.size+1=K1 at h3 hK1w |-;generalize hK0:w.heap.size=K0 at h3 |-;obtain⟨c0,c1,c2,c3⟩:=h3.out.1.c4;have H1:Hid (Bx w3 K1 zT 35):=h3.out.2.1;have HB3:Hid (Below w.heap.size w w3):=by rw[hK0];exact h3.out.2.2
  clear h3;replace hK1w:Hid (w.heap.size<=K1):=hK1w;clear hK0 hK1;obtain⟨X0,X1,X2,X3⟩:=H1.out.c4;have Z0:=H1.out.fz 0;have Z1:=H1.out.fz 1;have Z2:=H1.out.fz 2;have Z3:=H1.out.fz 3;go_wp2;replace hK1w:=hK1w.out;have hO:=H1.out.fill4 rfl (.int .i64 k) (.string x) (.string a) (.slice ad len cap);have hOB:=below_fill4 HB3.out hK1w (.int .i64 k) (.string x) (.string a) (.slice ad len cap);change bodyPost _ _ _ _ _ (fill4 w3 K1 (.int .i64 k) (.string x) (.string a) (.slice ad len cap));generalize fill4 w3 K1 (.int .i64 k) (.string x) (.string a) (.slice ad len cap)=WF at hO hOB |-;have j0:=hO.cell 0;have j1:=hO.cell 1;have j2:=hO.cell 2;have j3:=hO.cell 3;refine bodyPost_ret (v:=.agg #[.int .i64 k,.string x,.string a,.slice ad len cap]) (by simp[results,Tryz.results173,go_sem,j0,j1,j2,j3]) rfl ?_;exact⟨by rw[HV.out],hOB⟩
 ·have hbl:(decide (k=5) || decide (k=6))=false:=by simpa [not_or]using h5
  rw[hbl]at HIL;by_cases h4:g=4
  ·have HV:Hid (toldV k x a (.slice ad len cap) l g=lfV 4 l []):=by unfold toldV;rw[if_neg h5,if_pos h4];exact rfl
   subst h4;refine HIL.out.mono ?_;rintro e w3 ⟨rfl,h3⟩;generalize hK1:w.heap.size+1=K1 at h3 hK1w |-;generalize hK0:w.heap.size=K0 at h3 |-;have H1:Hid (Bx w3 K1 zT 35):=h3.out.2.1;have HB3:Hid (Below w.heap.size w w3):=by rw[hK0];exact h3.out.2.2
   clear h3;replace hK1w:Hid (w.heap.size<=K1):=hK1w;clear hK0 hK1;obtain⟨X0,X1,X2,X3⟩:=H1.out.c4;have Z0:=H1.out.fz 0;have Z1:=H1.out.fz 1;have Z2:=H1.out.fz 2;have Z3:=H1.out.fz 3;go_wp2;replace hK1w:=hK1w.out;have hO:=H1.out.fill4 rfl (.int .i64 4) (.string (mk l)) (.string ⟨#[]⟩) (.slice none 0 0);have hOB:=below_fill4 HB3.out hK1w (.int .i64 4) (.string (mk l)) (.string ⟨#[]⟩) (.slice none 0 0);change bodyPost _ _ _ _ _ (fill4 w3 K1 (.int .i64 4) (.string (mk l)) (.string ⟨#[]⟩) (.slice none 0 0));generalize fill4 w3 K1 (.int .i64 4) (.string (mk l)) (.string ⟨#[]⟩) (.slice none 0 0)=WF at hO hOB |-;have j0:=hO.cell 0;have j1:=hO.cell 1;have j2:=hO.cell 2;have j3:=hO.cell 3;refine bodyPost_ret (v:=.agg #[.int .i64 4,.string (mk l),.string ⟨#[]⟩,.slice none 0 0]) (by simp[results,Tryz.results173,go_sem,j0,j1,j2,j3]) rfl ?_;exact⟨by rw[HV.out];rfl,hOB⟩
  ·have HV:Hid (toldV k x a (.slice ad len cap) l g=lfV (knd l) (if knd l=1 then []else l) []):=by unfold toldV;rw[if_neg h5,if_neg h4];exact rfl
   have hge:(g==4)=false:=by simpa using h4
   refine HIL.out.mono ?_;rintro e w3 ⟨rfl,h3⟩;have HPT:Hid (Calls Tryz.prog 192 #[.string (mk l)] w3 fun e w'=>e=.returned (.agg #[.int .i64 (knd l),.string (mk (if knd l=1 then []else l)),.string (mk []),.slice none 0 0])/\Hid (Bx w' (w.heap.size+1) zT 35/\Below w.heap.size w w')):=(plainTree_any l hl (hT.later h3.out.2.2)).mono (fun e w' h=>⟨h.1,h3.out.2.1.later h.2,h3.out.2.2.trans (h.2.mono h3.out.2.2.size)⟩);clear h3;generalize (if knd l=1 then []else l)=tx at *;generalize knd l=kx at *;go_wp2_with fail;refine HPT.out.mono ?_;rintro e w4 ⟨rfl,h4'⟩;generalize hK1:w.heap.size+1=K1 at h4' hK1w |-;have H1:Hid (Bx w4 K1 zT 35):=h4'.out.1;have HB3:Hid (Below w.heap.size w w4):=h4'.out.2;clear h4';replace hK1w:Hid (w.heap.size<=K1):=hK1w;clear hK1;obtain⟨X0,X1,X2,X3⟩:=H1.out.c4;have Z0:=H1.out.fz 0;have Z1:=H1.out.fz 1;have Z2:=H1.out.fz 2;have Z3:=H1.out.fz 3;go_wp2;replace hK1w:=hK1w.out;have hO:=H1.out.fill4 rfl (.int .i64 kx) (.string (mk tx)) (.string (mk [])) (.slice none 0 0);have hOB:=below_fill4 HB3.out hK1w (.int .i64 kx) (.string (mk tx)) (.string (mk [])) (.slice none 0 0);change bodyPost _ _ _ _ _ (fill4 w4 K1 (.int .i64 kx) (.string (mk tx)) (.string (mk [])) (.slice none 0 0));generalize fill4 w4 K1 (.int .i64 kx) (.string (mk tx)) (.string (mk [])) (.slice none 0 0)=WF at hO hOB |-;have j0:=hO.cell 0;have j1:=hO.cell 1;have j2:=hO.cell 2;have j3:=hO.cell 3;refine bodyPost_ret (v:=.agg #[.int .i64 kx,.string (mk tx),.string (mk []),.slice none 0 0]) (by simp[results,Tryz.results173,go_sem,j0,j1,j2,j3]) rfl ?_;exact⟨by rw[HV.out];rfl,hOB⟩
def okV (k:Value) (x a sl:Value):Value:=.tuple #[.agg #[k,x,a,sl],f0]
def erV (T:Nat):Value:=.tuple #[.agg zT,.agg #[.int .i64 12,.int .i64 (T:Int)]]
end Flw
namespace Flw
open Utf Rws Pln
open Go.RowKit
set_option maxHeartbeats 4000000
variable {b p dp:Nat} {s:Ln} {w w1 w2:World}
structure S4 (w0 w:World) (K0 K1 K2 K3:Nat) (pc tc:Array Value):Prop where
 k0:Bx w K0 pc 193
 k1:Bx w K1 tc 35
 k2:Bx w K2 zT 35
 k3:Bx w K3 zF 32
 bl:Below w0.heap.size w0 w
 h0:w0.heap.size<=K0
 h1:K0<K1
 h2:K1<K2
 h3:K2<K3
variable {K0 K1 K2 K3:Nat} {pc tc:Array Value} {w0:World}
theorem S4.later (h:S4 w0 w K0 K1 K2 K3 pc tc) (hb:Below w.heap.size w w1):S4 w0 w1 K0 K1 K2 K3 pc tc:=⟨h.k0.later hb,h.k1.later hb,h.k2.later hb,h.k3.later hb,h.bl.trans (hb.mono h.bl.size),h.h0,h.h1,h.h2,h.h3⟩
theorem S4.setT (h:S4 w0 w K0 K1 K2 K3 pc tc) (hz:tc.size=4) (x0 x1 x2 x3:Value):S4 w0 (fill4 w K1 x0 x1 x2 x3) K0 K1 K2 K3 pc #[x0,x1,x2,x3]:=by
 have:=h.h0;have:=h.h1;have:=h.h2;have:=h.h3;exact⟨h.k0.fill4o (by omega) _ _ _ _,h.k1.fill4 hz _ _ _ _,h.k2.fill4o (by omega) _ _ _ _,h.k3.fill4o (by omega) _ _ _ _,below_fill4 h.bl (by omega) _ _ _ _,h.h0,h.h1,h.h2,h.h3⟩
theorem S4.setA (h:S4 w0 w K0 K1 K2 K3 pc tc) (x:Value):S4 w0 (w.setCell ⟨K1,2,none⟩ x) K0 K1 K2 K3 pc (tc.setIfInBounds 2 x):=by
 have:=h.h0;have:=h.h1;have:=h.h2;have:=h.h3;exact⟨h.k0.other (by omega) _ _,h.k1.set 2 x,h.k2.other (by omega) _ _,h.k3.other (by omega) _ _,h.bl.setCell (p:=⟨K1,2,none⟩) (by show w0.heap.size<=K1;omega) _,h.h0,h.h1,h.h2,h.h3⟩
theorem S4.out (h:S4 w0 w K0 K1 K2 K3 pc tc) (x0 x1 x2 x3 y0 y1:Value):Below w0.heap.size w0 (fill6 w K2 K3 x0 x1 x2 x3 y0 y1)/\Bx (fill6 w K2 K3 x0 x1 x2 x3 y0 y1) K2 #[x0,x1,x2,x3] 35/\Bx (fill6 w K2 K3 x0 x1 x2 x3 y0 y1) K3 #[y0,y1] 32:=by
 have:=h.h0;have:=h.h1;have:=h.h2;have:=h.h3;exact⟨((below_fill4 h.bl (show w0.heap.size<=K2 by omega) x0 x1 x2 x3).setCell (p:=⟨K3,0,none⟩) (by show w0.heap.size<=K3;omega) _).setCell (p:=⟨K3,1,none⟩) (by show w0.heap.size<=K3;omega) _,((h.k2.fill4 rfl x0 x1 x2 x3).other (by omega) _ _).other (by omega) _ _,((h.k3.fill4o (by omega) x0 x1 x2 x3).set 0 y0).set 1 y1⟩
theorem S4.new (w:World) (pc tc:Array Value):S4 w ((((w.alloc (.cells pc 193)).alloc (.cells tc 35)).alloc (.cells zT 35)).alloc (.cells zF 32)) w.heap.size (w.heap.size+1) (w.heap.size+1+1) (w.heap.size+1+1+1) pc tc:=by
 have b1:=below_alloc w (.cells pc 193);have b2:=below_alloc (w.alloc (.cells pc 193)) (.cells tc 35);have b3:=below_alloc ((w.alloc (.cells pc 193)).alloc (.cells tc 35)) (.cells zT 35);have b4:=below_alloc (((w.alloc (.cells pc 193)).alloc (.cells tc 35)).alloc (.cells zT 35)) (.cells zF 32);have e1:(w.alloc (.cells pc 193)).heap.size=w.heap.size+1:=by simp
 have e2:((w.alloc (.cells pc 193)).alloc (.cells tc 35)).heap.size=w.heap.size+1+1:=by simp
 have e3:(((w.alloc (.cells pc 193)).alloc (.cells tc 35)).alloc (.cells zT 35)).heap.size=w.heap.size+1+1+1:=by simp
 have x1:=((Bx.new (w.alloc (.cells pc 193)) tc 35).later b3).later b4;have x2:=(Bx.new ((w.alloc (.cells pc 193)).alloc (.cells tc 35)) zT 35).later b4;have x3:=Bx.new (((w.alloc (.cells pc 193)).alloc (.cells tc 35)).alloc (.cells zT 35)) zF 32;rw[e1]at x1;rw[e2]at x2;rw[e3]at x3;exact⟨(((Bx.new w pc 193).later b2).later b3).later b4,x1,x2,x3,b1.trans ((b2.mono (by omega)).trans ((b3.mono (by omega)).trans (b4.mono (by omega)))),Nat.le_refl _,by omega,by omega,by omega⟩
def onV (a:Ln) (tg:Int) (T:Nat) (k:Int) (x:ByteArray) (sl:Value) (k':Int) (x':ByteArray) (sl':Value):Value :=
 if tg=0 then okV (.int .i64 k) (.string x) (.string (mk a)) sl else if k'=tg then okV (.int .i64 k') (.string x') (.string (mk a)) sl' else erV T
theorem on_any (a:Ln) (tg:Int) (T:Nat) (k:Int) (x c:ByteArray) (ad:Option Addr) (len cap:Nat) (l:Ln) (k':Int) (x' c':ByteArray) (ad':Option Addr) (len' cap':Nat) (hl:l.length<=65536) (htg:0<=tg/\tg<=6) (hT:Tb w)
  (hR:toldV k x c (.slice ad len cap) l tg=.agg #[.int .i64 k',.string x',.string c',.slice ad' len' cap']) :
  Calls Tryz.prog 151 #[.agg #[.string (mk a),.int .i64 tg,.int .i64 (T:Int)],.agg #[.int .i64 k,.string x,.string c,.slice ad len cap],.string (mk l)] w fun e w'=>e=.returned (onV a tg T k x (.slice ad len cap) k' x' (.slice ad' len' cap'))/\Below w.heap.size w w':=by
 have hS:=S4.new w #[.string (mk a),.int .i64 tg,.int .i64 (T:Int)] #[.int .i64 k,.string x,.string c,.slice ad len cap];obtain⟨W,hW⟩:∃ W,(((w.alloc (.cells #[.string (mk a),.int .i64 tg,.int .i64 (T:Int)] 193)).alloc (.cells #[.int .i64 k,.string x,.string c,.slice ad len cap] 35)).alloc (.cells zT 35)).alloc (.cells zF 32)=W:=⟨_,rfl⟩;rw[hW]at hS;go_enter Tryz.func151,Tryz.ntmps151;go_upto_region 1 with fail
 change Code.wp _ _ _ _ ((((w.alloc (.cells #[.string (mk a),.int .i64 tg,.int .i64 (T:Int)] 193)).alloc (.cells #[.int .i64 k,.string x,.string c,.slice ad len cap] 35)).alloc (.cells zT 35)).alloc (.cells zF 32));rw[hW];clear hW;generalize hK3:w.heap.size+1+1+1=K3 at hS |-;generalize hK2:w.heap.size+1+1=K2 at hS |-;generalize hK1:w.heap.size+1=K1 at hS |-;generalize hK0:w.heap.size=K0 at hS |-;clear hK1 hK2 hK3;have HS:Hid (S4 w W K0 K1 K2 K3 #[.string (mk a),.int .i64 tg,.int .i64 (T:Int)] #[.int .i64 k,.string x,.string c,.slice ad len cap]):=hS;have hn1:K1≠K0:=by have:=hS.h1;omega
 have hn2:K0≠K1:=by omega
 have hn3:K2≠K1:=by have:=hS.h2;omega
 have hn4:K1≠K2:=by omega
 have hn5:K3≠K2:=by have:=hS.h3;omega
 have hn6:K2≠K3:=by omega
 have hn7:K3≠K1:=by have:=hS.h2;have:=hS.h3;omega
 have hn8:K1≠K3:=by omega
 have hn9:K2≠K0:=by have:=hS.h1;have:=hS.h2;omega
 have hn10:K0≠K2:=by omega
 have hn11:K3≠K0:=by have:=hS.h1;have:=hS.h2;have:=hS.h3;omega
 have hn12:K0≠K3:=by omega
 clear hS hK0;obtain⟨p0,p1,p2⟩:=HS.out.k0.c3;have t0:W.cell? ⟨K1,0,none⟩=some (.int .i64 k):=HS.out.k1.cell 0;have u0:W.frozen? ⟨K1,0,none⟩=false:=HS.out.k1.fz 0;have t1:W.cell? ⟨K1,1,none⟩=some (.string x):=HS.out.k1.cell 1;have u1:W.frozen? ⟨K1,1,none⟩=false:=HS.out.k1.fz 1;have t2:W.cell? ⟨K1,2,none⟩=some (.string c):=HS.out.k1.cell 2;have u2:W.frozen? ⟨K1,2,none⟩=false:=HS.out.k1.fz 2;have t3:W.cell? ⟨K1,3,none⟩=some (.slice ad len cap):=HS.out.k1.cell 3;have u3:W.frozen? ⟨K1,3,none⟩=false:=HS.out.k1.fz 3;by_cases h0:tg=0
 ·have HV:Hid (onV a tg T k x (.slice ad len cap) k' x' (.slice ad' len' cap')=okV (.int .i64 k) (.string x) (.string (mk a)) (.slice ad len cap)):=by unfold onV;rw[if_pos h0];exact rfl
  subst h0;clear hR;obtain⟨w5,hw5⟩:∃ w5,W.setCell ⟨K1,2,none⟩ (.string (mk a))=w5:=⟨_,rfl⟩;have HS5:Hid (S4 w w5 K0 K1 K2 K3 #[.string (mk a),.int .i64 0,.int .i64 (T:Int)] #[.int .i64 k,.string x,.string (mk a),.slice ad len cap]):=by rw[<-hw5];exact HS.out.setA _
  have t0:w5.cell? ⟨K1,0,none⟩=some (.int .i64 k):=HS5.out.k1.cell 0;have u0:w5.frozen? ⟨K1,0,none⟩=false:=HS5.out.k1.fz 0;have t1:w5.cell? ⟨K1,1,none⟩=some (.string x):=HS5.out.k1.cell 1;have u1:w5.frozen? ⟨K1,1,none⟩=false:=HS5.out.k1.fz 1;have t2:w5.cell? ⟨K1,2,none⟩=some (.string (mk a)):=HS5.out.k1.cell 2;have u2:w5.frozen? ⟨K1,2,none⟩=false:=HS5.out.k1.fz 2;have t3:w5.cell? ⟨K1,3,none⟩=some (.slice ad len cap):=HS5.out.k1.cell 3;have u3:w5.frozen? ⟨K1,3,none⟩=false:=HS5.out.k1.fz 3;have X0:w5.cell? ⟨K2,0,none⟩=some (.int .i64 0):=HS5.out.k2.cell 0;have Z0:w5.frozen? ⟨K2,0,none⟩=false:=HS5.out.k2.fz 0;have X1:w5.cell? ⟨K2,1,none⟩=some (.string ⟨#[]⟩):=HS5.out.k2.cell 1;have Z1:w5.frozen? ⟨K2,1,none⟩=false:=HS5.out.k2.fz 1;have X2:w5.cell? ⟨K2,2,none⟩=some (.string ⟨#[]⟩):=HS5.out.k2.cell 2;have Z2:w5.frozen? ⟨K2,2,none⟩=false:=HS5.out.k2.fz 2;have X3:w5.cell? ⟨K2,3,none⟩=some (.slice none 0 0):=HS5.out.k2.cell 3;have Z3:w5.frozen? ⟨K2,3,none⟩=false:=HS5.out.k2.fz 3;have Y0:w5.cell? ⟨K3,0,none⟩=some (.int .i64 0):=HS5.out.k3.cell 0;have V0:w5.frozen? ⟨K3,0,none⟩=false:=HS5.out.k3.fz 0;have Y1:w5.cell? ⟨K3,1,none⟩=some (.int .i64 0):=HS5.out.k3.cell 1;have V1:w5.frozen? ⟨K3,1,none⟩=false:=HS5.out.k3.fz 1;clear HS;go_wp2;have hO:=HS5.out.out (.int .i64 k) (.string x) (.string (mk a)) (.slice ad len cap) (.int .i64 0) (.int .i64 0);change bodyPost _ _ _ _ _ (fill6 w5 K2 K3 (.int .i64 k) (.string x) (.string (mk a)) (.slice ad len cap) (.int .i64 0) (.int .i64 0));generalize fill6 w5 K2 K3 (.int .i64 k) (.string x) (.string (mk a)) (.slice ad len cap) (.int .i64 0) (.int .i64 0)=WF at hO |-;obtain⟨o2,o3,o4⟩:=hO;have j0:WF.cell? ⟨K2,0,none⟩=_:=o3.cell 0;have j1:WF.cell? ⟨K2,1,none⟩=_:=o3.cell 1;have j2:WF.cell? ⟨K2,2,none⟩=_:=o3.cell 2;have j3:WF.cell? ⟨K2,3,none⟩=_:=o3.cell 3;have j4:WF.cell? ⟨K3,0,none⟩=_:=o4.cell 0;have j5:WF.cell? ⟨K3,1,none⟩=_:=o4.cell 1;refine bodyPost_ret (v:=.tuple #[.agg #[.int .i64 k,.string x,.string (mk a),.slice ad len cap],.agg #[.int .i64 0,.int .i64 0]]) (by simp[results,Tryz.results151,go_sem,j0,j1,j2,j3,j4,j5]) rfl ?_;exact⟨by rw[HV.out];rfl,o2⟩
 ·have hte:(tg != 0)=true:=by simpa using h0
  have HRT:Hid (Calls Tryz.prog 173 #[.agg #[.int .i64 k,.string x,.string c,.slice ad len cap],.string (mk l),.int .i64 tg] W fun e w'=>e=.returned (.agg #[.int .i64 k',.string x',.string c',.slice ad' len' cap'])/\Hid (S4 w w' K0 K1 K2 K3 #[.string (mk a),.int .i64 tg,.int .i64 (T:Int)] #[.int .i64 k,.string x,.string c,.slice ad len cap])):=by
   have:=retold_any k x c ad len cap l tg hl (hT.later HS.out.bl);rw[hR]at this;exact this.mono (fun e w' h=>⟨h.1,HS.out.later h.2⟩)
  clear HS hR;go_wp2_with fail;refine HRT.out.mono ?_;rintro e w3 ⟨rfl,HS3⟩;clear HRT p0 p1 p2 t0 t1 t2 t3 u0 u1 u2 u3;obtain⟨p0,p1,p2⟩:=HS3.out.k0.c3;have t0:w3.cell? ⟨K1,0,none⟩=some (.int .i64 k):=HS3.out.k1.cell 0;have u0:w3.frozen? ⟨K1,0,none⟩=false:=HS3.out.k1.fz 0;have t1:w3.cell? ⟨K1,1,none⟩=some (.string x):=HS3.out.k1.cell 1;have u1:w3.frozen? ⟨K1,1,none⟩=false:=HS3.out.k1.fz 1;have t2:w3.cell? ⟨K1,2,none⟩=some (.string c):=HS3.out.k1.cell 2;have u2:w3.frozen? ⟨K1,2,none⟩=false:=HS3.out.k1.fz 2;have t3:w3.cell? ⟨K1,3,none⟩=some (.slice ad len cap):=HS3.out.k1.cell 3;have u3:w3.frozen? ⟨K1,3,none⟩=false:=HS3.out.k1.fz 3;obtain⟨w4,hw4⟩:∃ w4,(((w3.setCell ⟨K1,0,none⟩ (.int .i64 k')).setCell ⟨K1,1,none⟩ (.string x')).setCell ⟨K1,2,none⟩ (.string c')).setCell ⟨K1,3,none⟩ (.slice ad' len' cap')=w4:=⟨_,rfl⟩;have HS4:Hid (S4 w w4 K0 K1 K2 K3 #[.string (mk a),.int .i64 tg,.int .i64 (T:Int)] #[.int .i64 k',.string x',.string c',.slice ad' len' cap']):=by rw[<-hw4];exact HS3.out.setT rfl _ _ _ _
  clear HS3;obtain⟨q0,q1,q2⟩:=HS4.out.k0.c3;have m0:w4.cell? ⟨K1,0,none⟩=some (.int .i64 k'):=HS4.out.k1.cell 0;have v0:w4.frozen? ⟨K1,0,none⟩=false:=HS4.out.k1.fz 0;have m1:w4.cell? ⟨K1,1,none⟩=some (.string x'):=HS4.out.k1.cell 1;have v1:w4.frozen? ⟨K1,1,none⟩=false:=HS4.out.k1.fz 1;have m2:w4.cell? ⟨K1,2,none⟩=some (.string c'):=HS4.out.k1.cell 2;have v2:w4.frozen? ⟨K1,2,none⟩=false:=HS4.out.k1.fz 2;have m3:w4.cell? ⟨K1,3,none⟩=some (.slice ad' len' cap'):=HS4.out.k1.cell 3;have v3:w4.frozen? ⟨K1,3,none⟩=false:=HS4.out.k1.fz 3;by_cases hk:k'=tg
  ·have HV:Hid (onV a tg T k x (.slice ad len cap) k' x' (.slice ad' len' cap')=okV (.int .i64 k') (.string x') (.string (mk a)) (.slice ad' len' cap')):=by unfold onV;rw[if_neg h0,if_pos hk];exact rfl
   have hke:(k' != tg)=false:=by simpa using hk
   have hke2:(k'==tg)=true:=by simpa using hk
   clear hk;obtain⟨w5,hw5⟩:∃ w5,w4.setCell ⟨K1,2,none⟩ (.string (mk a))=w5:=⟨_,rfl⟩;have HS5:Hid (S4 w w5 K0 K1 K2 K3 #[.string (mk a),.int .i64 tg,.int .i64 (T:Int)] #[.int .i64 k',.string x',.string (mk a),.slice ad' len' cap']):=by rw[<-hw5];exact HS4.out.setA _
   have t0:w5.cell? ⟨K1,0,none⟩=some (.int .i64 k'):=HS5.out.k1.cell 0;have u0:w5.frozen? ⟨K1,0,none⟩=false:=HS5.out.k1.fz 0;have t1:w5.cell? ⟨K1,1,none⟩=some (.string x'):=HS5.out.k1.cell 1;have u1:w5.frozen? ⟨K1,1,none⟩=false:=HS5.out.k1.fz 1;have t2:w5.cell? ⟨K1,2,none⟩=some (.string (mk a)):=HS5.out.k1.cell 2;have u2:w5.frozen? ⟨K1,2,none⟩=false:=HS5.out.k1.fz 2;have t3:w5.cell? ⟨K1,3,none⟩=some (.slice ad' len' cap'):=HS5.out.k1.cell 3;have u3:w5.frozen? ⟨K1,3,none⟩=false:=HS5.out.k1.fz 3;have X0:w5.cell? ⟨K2,0,none⟩=some (.int .i64 0):=HS5.out.k2.cell 0;have Z0:w5.frozen? ⟨K2,0,none⟩=false:=HS5.out.k2.fz 0;have X1:w5.cell? ⟨K2,1,none⟩=some (.string ⟨#[]⟩):=HS5.out.k2.cell 1;have Z1:w5.frozen? ⟨K2,1,none⟩=false:=HS5.out.k2.fz 1;have X2:w5.cell? ⟨K2,2,none⟩=some (.string ⟨#[]⟩):=HS5.out.k2.cell 2;have Z2:w5.frozen? ⟨K2,2,none⟩=false:=HS5.out.k2.fz 2;have X3:w5.cell? ⟨K2,3,none⟩=some (.slice none 0 0):=HS5.out.k2.cell 3;have Z3:w5.frozen? ⟨K2,3,none⟩=false:=HS5.out.k2.fz 3;have Y0:w5.cell? ⟨K3,0,none⟩=some (.int .i64 0):=HS5.out.k3.cell 0;have V0:w5.frozen? ⟨K3,0,none⟩=false:=HS5.out.k3.fz 0;have Y1:w5.cell? ⟨K3,1,none⟩=some (.int .i64 0):=HS5.out.k3.cell 1;have V1:w5.frozen? ⟨K3,1,none⟩=false:=HS5.out.k3.fz 1;clear HS4;go_wp2;have hO:=HS5.out.out (.int .i64 k') (.string x') (.string (mk a)) (.slice ad' len' cap') (.int .i64 0) (.int .i64 0);change bodyPost _ _ _ _ _ (fill6 w5 K2 K3 (.int .i64 k') (.string x') (.string (mk a)) (.slice ad' len' cap') (.int .i64 0) (.int .i64 0));generalize fill6 w5 K2 K3 (.int .i64 k') (.string x') (.string (mk a)) (.slice ad' len' cap') (.int .i64 0) (.int .i64 0)=WF at hO |-;obtain⟨o2,o3,o4⟩:=hO;have j0:WF.cell? ⟨K2,0,none⟩=_:=o3.cell 0;have j1:WF.cell? ⟨K2,1,none⟩=_:=o3.cell 1;have j2:WF.cell? ⟨K2,2,none⟩=_:=o3.cell 2;have j3:WF.cell? ⟨K2,3,none⟩=_:=o3.cell 3;have j4:WF.cell? ⟨K3,0,none⟩=_:=o4.cell 0;have j5:WF.cell? ⟨K3,1,none⟩=_:=o4.cell 1;refine bodyPost_ret (v:=.tuple #[.agg #[.int .i64 k',.string x',.string (mk a),.slice ad' len' cap'],.agg #[.int .i64 0,.int .i64 0]]) (by simp[results,Tryz.results151,go_sem,j0,j1,j2,j3,j4,j5]) rfl ?_;exact⟨by rw[HV.out];rfl,o2⟩
  ·have HV:Hid (onV a tg T k x (.slice ad len cap) k' x' (.slice ad' len' cap')=erV T):=by unfold onV;rw[if_neg h0,if_neg hk];exact rfl
   have hke:(k' != tg)=true:=by simpa using hk
   have hke2:(k'==tg)=false:=by simpa using hk
   have X0:w4.cell? ⟨K2,0,none⟩=some (.int .i64 0):=HS4.out.k2.cell 0;have Z0:w4.frozen? ⟨K2,0,none⟩=false:=HS4.out.k2.fz 0;have X1:w4.cell? ⟨K2,1,none⟩=some (.string ⟨#[]⟩):=HS4.out.k2.cell 1;have Z1:w4.frozen? ⟨K2,1,none⟩=false:=HS4.out.k2.fz 1;have X2:w4.cell? ⟨K2,2,none⟩=some (.string ⟨#[]⟩):=HS4.out.k2.cell 2;have Z2:w4.frozen? ⟨K2,2,none⟩=false:=HS4.out.k2.fz 2;have X3:w4.cell? ⟨K2,3,none⟩=some (.slice none 0 0):=HS4.out.k2.cell 3;have Z3:w4.frozen? ⟨K2,3,none⟩=false:=HS4.out.k2.fz 3;have Y0:w4.cell? ⟨K3,0,none⟩=some (.int .i64 0):=HS4.out.k3.cell 0;have V0:w4.frozen? ⟨K3,0,none⟩=false:=HS4.out.k3.fz 0;have Y1:w4.cell? ⟨K3,1,none⟩=some (.int .i64 0):=HS4.out.k3.cell 1;have V1:w4.frozen? ⟨K3,1,none⟩=false:=HS4.out.k3.fz 1;go_wp2;go_region
   all_goals
    go_wp2;have hO:=HS4.out.out (.int .i64 0) (.string ⟨#[]⟩) (.string ⟨#[]⟩) (.slice none 0 0) (.int .i64 12) (.int .i64 (T:Int));change bodyPost _ _ _ _ _ (fill6 w4 K2 K3 (.int .i64 0) (.string ⟨#[]⟩) (.string ⟨#[]⟩) (.slice none 0 0) (.int .i64 12) (.int .i64 (T:Int))).drew;generalize fill6 w4 K2 K3 (.int .i64 0) (.string ⟨#[]⟩) (.string ⟨#[]⟩) (.slice none 0 0) (.int .i64 12) (.int .i64 (T:Int))=WF at hO |-;obtain⟨o2,o3,o4⟩:=hO;have j0:WF.drew.cell? ⟨K2,0,none⟩=_:=o3.cell 0;have j1:WF.drew.cell? ⟨K2,1,none⟩=_:=o3.cell 1;have j2:WF.drew.cell? ⟨K2,2,none⟩=_:=o3.cell 2;have j3:WF.drew.cell? ⟨K2,3,none⟩=_:=o3.cell 3;have j4:WF.drew.cell? ⟨K3,0,none⟩=_:=o4.cell 0;have j5:WF.drew.cell? ⟨K3,1,none⟩=_:=o4.cell 1;replace o2:=o2.drew;refine bodyPost_ret (v:=.tuple #[.agg #[.int .i64 0,.string ⟨#[]⟩,.string ⟨#[]⟩,.slice none 0 0],.agg #[.int .i64 12,.int .i64 (T:Int)]]) (by simp[results,Tryz.results151,go_sem,j0,j1,j2,j3,j4,j5]) rfl ?_;exact⟨by rw[HV.out];rfl,o2⟩
end Flw
namespace Flw
open Utf Rws Pln
open Go.RowKit
set_option maxHeartbeats 4000000
variable {w:World} {k:Int} {x a:Ln} {ad:Option Addr} {len cap:Nat}
abbrev tv (k:Int) (x a:Ln) (ad:Option Addr) (len cap:Nat):Value:=.agg #[.int .i64 k,.string (mk x),.string (mk a),.slice ad len cap]
def rtx (k:Int) (x:Ln):Bool:=if k=1\/k=5\/k=6\/k=7 then x==[]else if k=2\/k=3 then decide (knd x=k)else if k=4 then (dec x).2.isNone else false
def ran (k:Int) (a:Ln):Bool:=if a=[]then decide (k≠7)else isName a
def rct (k:Int) (n:Nat):Bool:=if k=5 then true else if k=6 then decide (n % 2=0)else decide (n=0)
theorem rightText_any (hx:x.length<=2147483648) (hT:Tb w):Calls Tryz.prog 100 #[tv k x a ad len cap] w fun e w'=>e=.returned (.bool (rtx k x))/\Below w.heap.size w w':=by
 have b1:=below_alloc w (.cells #[.int .i64 k,.string (mk x),.string (mk a),.slice ad len cap] 35);have he:((mk x).toList==[])=(x==[]):=by rw[ByteArray.toList_eq,mk_data]
 by_cases h1:k=1\/k=5\/k=6\/k=7
 ·have HV:Hid (rtx k x=(x==[])):=by unfold rtx;rw[if_pos h1];exact rfl
  clear hT b1;rcases h1 with rfl | rfl | rfl | rfl <;>
  ·go_enter Tryz.func100,Tryz.ntmps100;go_wp2;go_ret;refine⟨?_,below_alloc _ _⟩;rw[HV.out];cases x<;>rfl
 by_cases h2:k=2\/k=3
 ·have HV:Hid (rtx k x=decide (knd x=k)):=by unfold rtx;rw[if_neg h1,if_pos h2];exact rfl
  have hx0:=Bx.new w #[.int .i64 k,.string (mk x),.string (mk a),.slice ad len cap] 35;obtain⟨W,hW⟩:∃ W,w.alloc (.cells #[.int .i64 k,.string (mk x),.string (mk a),.slice ad len cap] 35)=W:=⟨_,rfl⟩;rw[hW]at hx0 b1;have HR:Hid (∀ q:QW W,Calls Tryz.prog 120 #[.string (mk x)] q.w fun e w'=>e=.returned (.int .i64 (knd x))/\Below q.w.heap.size q.w w'):=fun q=>resolve_any x _ (by omega) ((hT.later b1).later q.h).1
  have q0:∀ q:QW W,q.w.cell? ⟨w.heap.size,0,none⟩=some (.int .i64 k):=fun q=>(hx0.later q.h).cell 0
  have q1:∀ q:QW W,q.w.cell? ⟨w.heap.size,1,none⟩=some (.string (mk x)):=fun q=>(hx0.later q.h).cell 1
  have u0:W.cell? ⟨w.heap.size,0,none⟩=some (.int .i64 k):=hx0.cell 0;have HBW:Hid (∀ q:QW W,Below w.heap.size w q.w):=fun q=>b1.trans (q.h.mono b1.size)
  have hNE:Nonempty (QW W):=⟨⟨W,Below.refl _ _⟩⟩;clear hT b1 h1 hx0;generalize knd x=kx at *;rcases h2 with rfl | rfl <;>
  ·go_enter Tryz.func100,Tryz.ntmps100;go_wp2;clear hW;refine wp_region_class (by kernel_rfl) (by kernel_rfl) ?_
   repeat (go_big_quiet_step (first | (go_at_call 120;refine calls_class _ (HR.out _))))
   refine wpQuiet_nil ?_;intro _ hw';obtain⟨q,hw''⟩:=hw';subst hw'';have hbel:=HBW.out q;clear q0 q1;go_wp2;go_ret;refine⟨?_,hbel⟩;rw[HV.out]
   first | rfl | (refine congrArg (fun q=>Ending.returned (.bool q)) ?_;rw[Bool.eq_iff_iff];simp)
 by_cases h4:k=4
 ·subst h4;have HV:Hid (rtx 4 x=(dec x).2.isNone):=by unfold rtx;rw[if_neg h1,if_neg h2,if_pos rfl];exact rfl
  have hdl:=dec_len x.length x (Nat.le_refl _)
  have HD:Hid (Calls Tryz.prog 121 #[.string (mk x)] (w.alloc (.cells #[.int .i64 4,.string (mk x),.string (mk a),.slice ad len cap] 35)) fun e w'=>∃ v,e=.returned (.tuple #[v,.agg #[.int .i64 (why (dec x).2),.int .i64 (pos (dec x).2)]])/\Hid (Below w.heap.size w w')):=by
   have:=decode_any (mk x) (w.alloc (.cells #[.int .i64 4,.string (mk x),.string (mk a),.slice ad len cap] 35)) (by rw[mk_size];omega) (by rw[mk_data];omega);rw[mk_data]at this;exact this.mono (fun e w' ⟨v,h1,h2,h3⟩=>⟨v,h1,b1.trans (h3.mono (by simp))⟩)
  clear hT b1 h1 h2 hdl
  cases hd:(dec x).2 with
  | none =>
   rw[hd]at HD HV;go_enter Tryz.func100,Tryz.ntmps100;go_wp2_with fail;refine HD.out.mono ?_;rintro e w3 ⟨v,rfl,hb⟩;rw[show why none=0 from rfl];generalize pos none=P0;go_wp2;go_ret;refine⟨by rw[HV.out];rfl,?_⟩;exact hb.out.alloc hb.out.size _
  | some q =>
   rw[hd]at HD HV;go_enter Tryz.func100,Tryz.ntmps100;go_wp2_with fail;refine HD.out.mono ?_;rintro e w3 ⟨v,rfl,hb⟩;rw[show why (some q)=8 from rfl];generalize pos (some q)=P0;go_wp2;go_ret;refine⟨by rw[HV.out];rfl,?_⟩;exact hb.out.alloc hb.out.size _
 ·have HV:Hid (rtx k x=false):=by unfold rtx;rw[if_neg h1,if_neg h2,if_neg h4];exact rfl
  have e1:(k==1)=false:=by simpa using fun e=>h1 (.inl e)
  have e5:(k==5)=false:=by simpa using fun e=>h1 (.inr (.inl e))
  have e6:(k==6)=false:=by simpa using fun e=>h1 (.inr (.inr (.inl e)))
  have e7:(k==7)=false:=by simpa using fun e=>h1 (.inr (.inr (.inr e)))
  have e2:(k==2)=false:=by simpa using fun e=>h2 (.inl e)
  have e3:(k==3)=false:=by simpa using fun e=>h2 (.inr e)
  have e4:(k==4)=false:=by simpa using h4
  clear h1 h2 h4 hT b1;go_enter Tryz.func100,Tryz.ntmps100;go_wp2;go_ret;exact⟨by rw[HV.out];rfl,below_alloc _ _⟩
theorem rightAnchor_any (ha:a.length<=2147483648):Calls Tryz.prog 101 #[tv k x a ad len cap] w fun e w'=>e=.returned (.bool (ran k a))/\Below w.heap.size w w':=by
 have he:((mk a).toList==[])=(a==[]):=by rw[ByteArray.toList_eq,mk_data]
 by_cases h0:a=[]
 ·have HV:Hid (ran k a=decide (k≠7)):=by unfold ran;rw[if_pos h0];exact rfl
  subst h0;by_cases h7:k=7
  ·subst h7;go_enter Tryz.func101,Tryz.ntmps101;go_wp2;go_ret;exact⟨by rw[HV.out];rfl,below_alloc _ _⟩
  ·have e7:(k != 7)=true:=by simpa using h7
   have e8:(k==7)=false:=by simpa using h7
   go_enter Tryz.func101,Tryz.ntmps101;go_wp2;go_ret;exact⟨by rw[HV.out,decide_eq_true h7];rfl,below_alloc _ _⟩
 ·have HV:Hid (ran k a=isName a):=by unfold ran;rw[if_neg h0];exact rfl
  have he2:(a==[])=false:=by simpa using h0
  rw[he2]at he;have HN:Hid (∀ w,Calls Tryz.prog 110 #[.string (mk a)] w fun e w'=>e=.returned (.bool (isName a))/\w=w'):=fun w=>name0_any a w (by omega)
  go_enter Tryz.func101,Tryz.ntmps101;go_wp2_with (go_at_call 110;refine(HN.out _).mono ?_;rintro e w3 ⟨rfl,rfl⟩);go_ret;exact⟨by rw[HV.out];rfl,below_alloc _ _⟩
theorem rightCount_any (hlen:len<=9223372036854775807):Calls Tryz.prog 102 #[tv k x a ad len cap] w fun e w'=>e=.returned (.bool (rct k len))/\Below w.heap.size w w':=by
 by_cases h5:k=5
 ·subst h5;go_enter Tryz.func102,Tryz.ntmps102;go_wp2;go_ret;exact⟨rfl,below_alloc _ _⟩
 have e5:(k==5)=false:=by simpa using h5
 by_cases h6:k=6
 ·subst h6;have HV:Hid (rct 6 len=decide (len % 2=0)):=rfl;go_enter Tryz.func102,Tryz.ntmps102;go_wp2;go_ret;refine⟨?_,below_alloc _ _⟩;rw[HV.out];refine congrArg (fun q=>Ending.returned (.bool q)) ?_;rw[Bool.eq_iff_iff];simp;omega
 ·have e6:(k==6)=false:=by simpa using h6
  have HV:Hid (rct k len=decide (len=0)):=by unfold rct;rw[if_neg h5,if_neg h6];exact rfl
  go_enter Tryz.func102,Tryz.ntmps102;go_wp2;go_ret;refine⟨?_,below_alloc _ _⟩;rw[HV.out];refine congrArg (fun q=>Ending.returned (.bool q)) ?_;rw[Bool.eq_iff_iff];simp
def ral (k:Int) (x a:Ln) (n:Nat):Bool:=rtx k x && ran k a && rct k n
theorem rightAlone_any (hx:x.length<=2147483648) (ha:a.length<=2147483648) (hlen:len<=9223372036854775807) (hT:Tb w):Calls Tryz.prog 74 #[tv k x a ad len cap] w fun e w'=>e=.returned (.bool (ral k x a len))/\Below w.heap.size w w':=by
 have b1:=below_alloc w (.cells #[.int .i64 k,.string (mk x),.string (mk a),.slice ad len cap] 35);have hx0:=Bx.new w #[.int .i64 k,.string (mk x),.string (mk a),.slice ad len cap] 35;obtain⟨W,hW⟩:∃ W,w.alloc (.cells #[.int .i64 k,.string (mk x),.string (mk a),.slice ad len cap] 35)=W:=⟨_,rfl⟩;rw[hW]at hx0 b1
 have H1:Hid (Calls Tryz.prog 100 #[.agg #[.int .i64 k,.string (mk x),.string (mk a),.slice ad len cap]] W fun e w'=>e=.returned (.bool (rtx k x))/\Hid (Below w.heap.size w w')/\w'.cell? ⟨w.heap.size,0,none⟩=some (.int .i64 k)/\w'.cell? ⟨w.heap.size,1,none⟩=some (.string (mk x))/\w'.cell? ⟨w.heap.size,2,none⟩=some (.string (mk a))/\w'.cell? ⟨w.heap.size,3,none⟩=some (.slice ad len cap)) :=
  (rightText_any hx (hT.later b1)).mono (fun e w' h=>⟨h.1,b1.trans (h.2.mono b1.size),(hx0.later h.2).cell 0,(hx0.later h.2).cell 1,(hx0.later h.2).cell 2,(hx0.later h.2).cell 3⟩)
 have H2:Hid (∀ w1,Hid (Below w.heap.size w w1)->w1.cell? ⟨w.heap.size,0,none⟩=some (.int .i64 k)->w1.cell? ⟨w.heap.size,1,none⟩=some (.string (mk x))->w1.cell? ⟨w.heap.size,2,none⟩=some (.string (mk a))->w1.cell? ⟨w.heap.size,3,none⟩=some (.slice ad len cap)->Calls Tryz.prog 101 #[.agg #[.int .i64 k,.string (mk x),.string (mk a),.slice ad len cap]] w1 fun e w'=>e=.returned (.bool (ran k a))/\Hid (Below w.heap.size w w')/\w'.cell? ⟨w.heap.size,0,none⟩=some (.int .i64 k)/\w'.cell? ⟨w.heap.size,1,none⟩=some (.string (mk x))/\w'.cell? ⟨w.heap.size,2,none⟩=some (.string (mk a))/\w'.cell? ⟨w.heap.size,3,none⟩=some (.slice ad len cap)):=fun w1 hb g0 g1 g2 g3 =>
  (rightAnchor_any ha).mono (fun e w' h=>⟨h.1,hb.out.trans (h.2.mono hb.out.size),(h.2.cell (p:=⟨w.heap.size,0,none⟩) (World.block_lt_of_cell? w1 _ g0)).trans g0,(h.2.cell (p:=⟨w.heap.size,1,none⟩) (World.block_lt_of_cell? w1 _ g1)).trans g1,(h.2.cell (p:=⟨w.heap.size,2,none⟩) (World.block_lt_of_cell? w1 _ g2)).trans g2,(h.2.cell (p:=⟨w.heap.size,3,none⟩) (World.block_lt_of_cell? w1 _ g3)).trans g3⟩)
 have H3:Hid (∀ w1,Hid (Below w.heap.size w w1)->Calls Tryz.prog 102 #[.agg #[.int .i64 k,.string (mk x),.string (mk a),.slice ad len cap]] w1 fun e w'=>e=.returned (.bool (rct k len))/\Hid (Below w.heap.size w w')):=fun w1 hb=>(rightCount_any hlen).mono (fun e w' h=>⟨h.1,hb.out.trans (h.2.mono hb.out.size)⟩)
 obtain⟨u0,u1,u2,u3⟩:=hx0.c4;have HV:Hid (ral k x a len=(rtx k x && ran k a && rct k len)):=rfl;clear hT b1 hx0 hx ha;generalize rtx k x=R1 at *;generalize ran k a=R2 at *;generalize rct k len=R3 at *;generalize ral k x a len=R0 at *;cases R1
 ·go_enter Tryz.func74,Tryz.ntmps74;go_wp2_with (go_at_call 100;refine H1.out.mono ?_;rintro e w3 ⟨rfl,hb,g0,g1,g2,g3⟩);go_ret;exact⟨by rw[HV.out];rfl,hb.out⟩
 cases R2
 ·go_enter Tryz.func74,Tryz.ntmps74;go_wp2_with (first | (go_at_call 100;refine H1.out.mono ?_;rintro e w3 ⟨rfl,hb,g0,g1,g2,g3⟩) | (go_at_call 101;refine(H2.out _ hb g0 g1 g2 g3).mono ?_;clear hb g0 g1 g2 g3;rintro e w4 ⟨rfl,hb,g0,g1,g2,g3⟩));go_ret;exact⟨by rw[HV.out];rfl,hb.out⟩
 ·go_enter Tryz.func74,Tryz.ntmps74;go_wp2_with (first | (go_at_call 100;refine H1.out.mono ?_;rintro e w3 ⟨rfl,hb,g0,g1,g2,g3⟩) | (go_at_call 101;refine(H2.out _ hb g0 g1 g2 g3).mono ?_;clear hb g0 g1 g2 g3;rintro e w4 ⟨rfl,hb,g0,g1,g2,g3⟩) | (go_at_call 102;refine(H3.out _ hb).mono ?_;rintro e w5 ⟨rfl,hb5⟩));go_ret;exact⟨by rw[HV.out];rfl,hb5.out⟩
theorem isKeyPlace_any (i:Nat) (hi:i<=9223372036854775807):Calls Tryz.prog 75 #[tv k x a ad len cap,.int .i64 (i:Int)] w fun e w'=>e=.returned (.bool (decide (k=6) && decide (i % 2=0)))/\Below w.heap.size w w':=by
 by_cases h6:k=6
 ·subst h6;go_enter Tryz.func75,Tryz.ntmps75;go_wp2;go_ret;refine⟨?_,below_alloc _ _⟩;refine congrArg (fun q=>Ending.returned (.bool q)) ?_;rw[Bool.eq_iff_iff];simp;omega
 ·have e6:(k==6)=false:=by simpa using h6
  go_enter Tryz.func75,Tryz.ntmps75;go_wp2;go_ret;exact⟨by rw[decide_eq_false h6];rfl,below_alloc _ _⟩
def kyl (k:Int) (a:Ln):Bool:=decide (1<=k) && decide (k<=4) && a==[]
theorem isKey_any:Calls Tryz.prog 76 #[tv k x a ad len cap] w fun e w'=>e=.returned (.bool (kyl k a))/\Below w.heap.size w w':=by
 by_cases h:1<=k/\k<=4
 ·have HV:Hid (kyl k a=(a==[])):=by unfold kyl;rw[decide_eq_true h.1,decide_eq_true h.2];exact rfl
  have hk:k=1\/k=2\/k=3\/k=4:=by omega
  have he:((mk a).toList==[])=(a==[]):=by rw[ByteArray.toList_eq,mk_data]
  clear h;rcases hk with rfl | rfl | rfl | rfl <;>
  ·go_enter Tryz.func76,Tryz.ntmps76;go_wp2;go_ret;refine⟨?_,below_alloc _ _⟩;rw[HV.out];cases a<;>rfl
 ·have HV:Hid (kyl k a=false):=by
   unfold kyl;by_cases h1:1<=k
   ·rw[decide_eq_false (show ¬ k<=4 from fun h4=>h ⟨h1,h4⟩)];simp[Hid]
   ·rw[decide_eq_false h1];exact rfl
  have e1:(k==1)=false:=by simp;omega
  have e2:(k==2)=false:=by simp;omega
  have e3:(k==3)=false:=by simp;omega
  have e4:(k==4)=false:=by simp;omega
  clear h;go_enter Tryz.func76,Tryz.ntmps76;go_wp2;go_ret;exact⟨by rw[HV.out];rfl,below_alloc _ _⟩
end Flw
namespace Flw
open Utf Rws Pln
open Go.RowKit
variable {b c p dp:Nat} {s:Ln} {w w1 w2:World}
def TrQ (P:Nat->Prop) (w:World):Nat->Value->Tr->Prop
 | 0,_,_=>False
 | d+1,v,t=>∃ ad len cap,v=.agg #[.int .i64 t.kind,.string (mk t.text),.string (mk t.anc),.slice ad len cap]/\len=t.kids.length/\len<=cap/\cap<=maxLen/\(-9223372036854775808<=t.kind/\t.kind<=9223372036854775807/\t.text.length<=9223372036854775807/\t.anc.length<=9223372036854775807) /\
   (0<len->∃ g off,ad=some ⟨g,off,none⟩/\P g/\g<w.heap.size/\∀ i,i<len->∃ c0 c1 c2 c3,w.cell? ⟨g,off+i*4,none⟩=some c0/\w.cell? ⟨g,off+i*4+1,none⟩=some c1 /\
    w.cell? ⟨g,off+i*4+2,none⟩=some c2/\w.cell? ⟨g,off+i*4+3,none⟩=some c3/\TrQ P w d (.agg #[c0,c1,c2,c3]) (t.kids.getD i tr0))
variable {P P':Nat->Prop}
theorem TrQ.v:∀ {d:Nat} {v:Value} {t:Tr},TrQ P w d v t->TrV w d v t
 | 0,v,t,h=>h
 | d+1,v,t,h=>by
  obtain⟨ad,len,cap,rfl,hl,hc,hm,hz,hk⟩:=h;refine⟨ad,len,cap,rfl,hl,hc,hm,hz,fun hp=> ?_⟩;obtain⟨g,off,ha,_,hlt,hcell⟩:=hk hp;refine⟨g,off,ha,hlt,fun i hi=> ?_⟩;obtain⟨c0,c1,c2,c3,h0,h1,h2,h3,ht⟩:=hcell i hi;exact⟨c0,c1,c2,c3,h0,h1,h2,h3,TrQ.v ht⟩
theorem TrQ.keep (hs:w.heap.size<=w1.heap.size) (hk:∀ j,P j->j<w.heap.size->w1.heap[j]?=w.heap[j]?):∀ {d:Nat} {v:Value} {t:Tr},TrQ P w d v t->TrQ P w1 d v t
 | 0,v,t,h=>h
 | d+1,v,t,h=>by
  obtain⟨ad,len,cap,rfl,hl,hc,hm,hz,hkk⟩:=h;refine⟨ad,len,cap,rfl,hl,hc,hm,hz,fun hp=> ?_⟩;obtain⟨g,off,ha,hb,hlt,hcell⟩:=hkk hp;refine⟨g,off,ha,hb,Nat.lt_of_lt_of_le hlt hs,fun i hi=> ?_⟩;obtain⟨c0,c1,c2,c3,h0,h1,h2,h3,ht⟩:=hcell i hi;have e:∀ n,w1.cell? ⟨g,n,none⟩=w.cell? ⟨g,n,none⟩:=fun n=>World.cell?_of_block (w:=w) (hk g hb hlt)
  exact⟨c0,c1,c2,c3,(e _).trans h0,(e _).trans h1,(e _).trans h2,(e _).trans h3,TrQ.keep hs hk ht⟩
theorem TrQ.wide (hP:∀ j,P j->j<w.heap.size->P' j):∀ {d:Nat} {v:Value} {t:Tr},TrQ P w d v t->TrQ P' w d v t
 | 0,v,t,h=>h
 | d+1,v,t,h=>by
  obtain⟨ad,len,cap,rfl,hl,hcp,hm,hz,hk⟩:=h;refine⟨ad,len,cap,rfl,hl,hcp,hm,hz,fun hp=> ?_⟩;obtain⟨g,off,ha,hg,hlt,hcell⟩:=hk hp;refine⟨g,off,ha,hP g hg hlt,hlt,fun i hi=> ?_⟩;obtain⟨c0,c1,c2,c3,h0,h1,h2,h3,ht⟩:=hcell i hi;exact⟨c0,c1,c2,c3,h0,h1,h2,h3,TrQ.wide hP ht⟩
theorem TrQ.more:∀ {d d':Nat} {v:Value} {t:Tr},TrQ P w d v t->d<=d'->TrQ P w d' v t
 | 0,d',v,t,h,hd=>h.elim
 | d+1,d',v,t,h,hd=>by
  obtain⟨e,rfl⟩:∃ e,d'=e+1:=⟨d'-1,by omega⟩;obtain⟨ad,len,cap,rfl,hl,hc,hm,hz,hk⟩:=h;refine⟨ad,len,cap,rfl,hl,hc,hm,hz,fun hp=> ?_⟩;obtain⟨g,off,ha,hb,hlt,hcell⟩:=hk hp;refine⟨g,off,ha,hb,hlt,fun i hi=> ?_⟩;obtain⟨c0,c1,c2,c3,h0,h1,h2,h3,ht⟩:=hcell i hi;exact⟨c0,c1,c2,c3,h0,h1,h2,h3,TrQ.more ht (by omega)⟩
def TrP (c:Nat) (w:World) (d:Nat) (v:Value) (t:Tr):Prop:=TrQ (fun g=>c<=g) w d v t
theorem TrP.v {d:Nat} {v:Value} {t:Tr} (h:TrP c w d v t):TrV w d v t:=TrQ.v h
theorem TrP.keep (hs:w.heap.size<=w1.heap.size) (hk:∀ j,c<=j->j<w.heap.size->w1.heap[j]?=w.heap[j]?) {d:Nat} {v:Value} {t:Tr} (h:TrP c w d v t):TrP c w1 d v t:=TrQ.keep hs hk h
theorem TrP.fr {d:Nat} {v:Value} {t:Tr} (h:TrP c w d v t) (hf:Fr b w w1) (hb:b<c):TrP c w1 d v t:=h.keep hf.size (fun j h1 h2=>hf.2 j (by omega) h2)
theorem TrP.later {d:Nat} {v:Value} {t:Tr} (h:TrP c w d v t) (hb:Below w.heap.size w w1):TrP c w1 d v t:=h.keep hb.size (fun j _ hj=>hb.block j hj)
theorem TrP.mono {c':Nat} (hc:c'<=c) {d:Nat} {v:Value} {t:Tr} (h:TrP c w d v t):TrP c' w d v t:=TrQ.wide (fun j h1 _=>Nat.le_trans hc h1) h
theorem TrP.more {d d':Nat} {v:Value} {t:Tr} (h:TrP c w d v t) (hd:d<=d'):TrP c w d' v t:=TrQ.more h hd
theorem TrP.set {d k i:Nat} {v u:Value} {t:Tr} (h:TrP c w d v t) (hk:k<c):TrP c (w.setCell ⟨k,i,none⟩ u) d v t :=
 h.keep (by simp[World.setCell]) (fun j h1 h2=>Below.heap_setCell _ _ _ _ (fun e=>by simp only at e;omega))
theorem TrP.leaf (k:Int) (x a:Ln) (hk: -9223372036854775808<=k/\k<=9223372036854775807) (hx:x.length<=65536) (ha:a.length<=65536) (d:Nat):TrP c w (d+1) (lfV k x a) ⟨k,x,a,[]⟩ :=
 ⟨none,0,0,rfl,rfl,Nat.le_refl _,Nat.zero_le _,⟨hk.1,hk.2,by show x.length<=_;omega,by show a.length<=_;omega⟩,fun h=>absurd h (by omega)⟩
theorem TrP.cells {d:Nat} {v:Value} {t:Tr} (h:TrP c w d v t):∃ (k:Int) (x a:ByteArray) (ad:Option Addr) (len cap:Nat),v=.agg #[.int .i64 k,.string x,.string a,.slice ad len cap]:=by
 cases d with
 | zero=>exact h.elim
 | succ d =>
  obtain⟨ad,len,cap,e,_⟩:=h;exact⟨_,_,_,ad,len,cap,e⟩
def KdQ (P:Nat->Prop) (w:World) (d:Nat) (xs:List Value) (ks:List Tr):Prop :=
 xs.length=ks.length*4/\(∀ u∈xs,u.oneCell'=true)/\∀ i,i<ks.length->∃ c0 c1 c2 c3,xs[i*4]?=some c0/\xs[i*4+1]?=some c1/\xs[i*4+2]?=some c2/\xs[i*4+3]?=some c3/\TrQ P w d (.agg #[c0,c1,c2,c3]) (ks.getD i tr0)
theorem KdQ.nil (d:Nat):KdQ P w d [] []:=⟨rfl,fun u hu=>(by cases hu),fun i hi=>absurd hi (by simp)⟩
theorem KdQ.keep {d:Nat} {xs:List Value} {ks:List Tr} (h:KdQ P w d xs ks) (hs:w.heap.size<=w1.heap.size) (hk:∀ j,P j->j<w.heap.size->w1.heap[j]?=w.heap[j]?):KdQ P w1 d xs ks :=
 ⟨h.1,h.2.1,fun i hi=>by obtain⟨c0,c1,c2,c3,h0,h1,h2,h3,ht⟩:=h.2.2 i hi;exact⟨c0,c1,c2,c3,h0,h1,h2,h3,ht.keep hs hk⟩⟩
theorem KdQ.wide {d:Nat} {xs:List Value} {ks:List Tr} (h:KdQ P w d xs ks) (hP:∀ j,P j->j<w.heap.size->P' j):KdQ P' w d xs ks :=
 ⟨h.1,h.2.1,fun i hi=>by obtain⟨c0,c1,c2,c3,h0,h1,h2,h3,ht⟩:=h.2.2 i hi;exact⟨c0,c1,c2,c3,h0,h1,h2,h3,ht.wide hP⟩⟩
theorem KdQ.later {d:Nat} {xs:List Value} {ks:List Tr} (h:KdQ P w d xs ks) (hb:Below w.heap.size w w1):KdQ P w1 d xs ks:=h.keep hb.size (fun j _ hj=>hb.block j hj)
theorem KdQ.app {d:Nat} {xs ys:List Value} {ks js:List Tr} (h:KdQ P w d xs ks) (k:KdQ P w d ys js):KdQ P w d (xs++ys) (ks++js):=by
 refine⟨by rw[List.length_append,List.length_append,h.1,k.1];omega,fun u hu=>(List.mem_append.1 hu).elim (h.2.1 u) (k.2.1 u),fun i hi=> ?_⟩;rw[List.length_append]at hi;by_cases hlt:i<ks.length
 ·obtain⟨c0,c1,c2,c3,h0,h1,h2,h3,ht⟩:=h.2.2 i hlt;have hx:=h.1;refine⟨c0,c1,c2,c3,?_,?_,?_,?_,?_⟩
  ·rw[List.getElem?_append_left (by omega)];exact h0
  ·rw[List.getElem?_append_left (by omega)];exact h1
  ·rw[List.getElem?_append_left (by omega)];exact h2
  ·rw[List.getElem?_append_left (by omega)];exact h3
  ·rw[List.getD_eq_getElem?_getD,List.getElem?_append_left hlt,<-List.getD_eq_getElem?_getD];exact ht
 ·obtain⟨c0,c1,c2,c3,h0,h1,h2,h3,ht⟩:=k.2.2 (i-ks.length) (by omega);have hx:=h.1;refine⟨c0,c1,c2,c3,?_,?_,?_,?_,?_⟩
  ·rw[List.getElem?_append_right (by omega),hx,show i*4-ks.length*4=(i-ks.length)*4 by omega];exact h0
  ·rw[List.getElem?_append_right (by omega),hx,show i*4+1-ks.length*4=(i-ks.length)*4+1 by omega];exact h1
  ·rw[List.getElem?_append_right (by omega),hx,show i*4+2-ks.length*4=(i-ks.length)*4+2 by omega];exact h2
  ·rw[List.getElem?_append_right (by omega),hx,show i*4+3-ks.length*4=(i-ks.length)*4+3 by omega];exact h3
  ·rw[List.getD_eq_getElem?_getD,List.getElem?_append_right (by omega),<-List.getD_eq_getElem?_getD];exact ht
def Kd (c:Nat) (w:World) (d:Nat) (xs:List Value) (ks:List Tr):Prop:=KdQ (fun g=>c<=g) w d xs ks
theorem Kd.later {d:Nat} {xs:List Value} {ks:List Tr} (h:Kd c w d xs ks) (hb:Below w.heap.size w w1):Kd c w1 d xs ks:=KdQ.later h hb
theorem Kd.set {d k i:Nat} {u:Value} {xs:List Value} {ks:List Tr} (h:Kd c w d xs ks) (hk:k<c):Kd c (w.setCell ⟨k,i,none⟩ u) d xs ks :=
 KdQ.keep h (by simp[World.setCell]) (fun j h1 h2=>Below.heap_setCell _ _ _ _ (fun e=>by simp only at e;omega))
theorem Kd.mono {c' d:Nat} {xs:List Value} {ks:List Tr} (h:Kd c w d xs ks) (hc:c'<=c):Kd c' w d xs ks:=KdQ.wide h (fun j h1 _=>Nat.le_trans hc h1)
theorem Kd.app {d:Nat} {xs ys:List Value} {ks js:List Tr} (h:Kd c w d xs ks) (k:Kd c w d ys js):Kd c w d (xs++ys) (ks++js):=KdQ.app h k
theorem Kd.one {d:Nat} {k:Int} {x a:ByteArray} {ad:Option Addr} {len cap:Nat} {t:Tr} (h:TrP c w d (.agg #[.int .i64 k,.string x,.string a,.slice ad len cap]) t):Kd c w d [.int .i64 k,.string x,.string a,.slice ad len cap] [t]:=by
 refine⟨rfl,fun u hu=> ?_,fun i hi=> ?_⟩
 ·simp only[List.mem_cons,List.not_mem_nil,or_false]at hu;rcases hu with rfl | rfl | rfl | rfl<;>rfl
 ·have:i=0:=by simp at hi;omega
  subst this;exact⟨_,_,_,_,rfl,rfl,rfl,rfl,h⟩
theorem TrP.node {d n:Nat} {v:Value} {xs:List Value} {ks:List Tr} (hown:w.ownsRow c 35 4 v n xs) (hk:Kd c w d xs ks) (hn:n=ks.length) (k:Int) (hkb: -9223372036854775808<=k/\k<=9223372036854775807) (a:Ln) (ha:a.length<=65536) :
  ∃ ad len cap,v=.slice ad len cap/\TrP c w (d+1) (.agg #[.int .i64 k,.string (mk []),.string (mk a),.slice ad len cap]) ⟨k,[],a,ks⟩:=by
 obtain⟨hxl,hv⟩:=hown;rcases hv with ⟨rfl,h0⟩ | ⟨g,cap,cur,rfl,hg,hh,hnc,hcm,hcs,htk⟩
 ·have hk0:ks=[]:=List.length_eq_zero_iff.1 (by omega);subst hk0;exact⟨none,0,0,rfl,none,0,0,rfl,rfl,Nat.le_refl _,Nat.zero_le _,⟨hkb.1,hkb.2,by simp,by show a.length<=_;omega⟩,fun h=>absurd h (by omega)⟩
 ·refine⟨_,n,cap,rfl,_,n,cap,rfl,hn,hnc,hcm,⟨hkb.1,hkb.2,by simp,by show a.length<=_;omega⟩,fun _=>⟨g,0,rfl,hg,(Array.getElem?_eq_some_iff.1 hh).1,fun i hi=> ?_⟩⟩;obtain⟨c0,c1,c2,c3,h0,h1,h2,h3,ht⟩:=hk.2.2 i (by omega)
  have cc:∀ j u,j<n*4->xs[j]?=some u->w.cell? ⟨g,0+j,none⟩=some u:=fun j u hj hu=>by
   rw[Lib.cell_of_heap hh];rw[<-htk,List.getElem?_take_of_lt hj]at hu;simpa using hu
  exact⟨c0,c1,c2,c3,cc _ _ (by omega) h0,by have:=cc _ _ (by omega) h1;rwa [show 0+(i*4+1)=0+i*4+1 by omega]at this,by have:=cc _ _ (by omega) h2;rwa [show 0+(i*4+2)=0+i*4+2 by omega]at this,by have:=cc _ _ (by omega) h3;rwa [show 0+(i*4+3)=0+i*4+3 by omega]at this,ht⟩
def ValRes (b:Nat) (s:Ln) (dp:Nat) (w:World) (d:Nat) (r:Ot (Tr × Ln)) (e:Ending) (w':World):Prop:=match r with
 | .ok x=>∃ v,e=.returned (.tuple #[v,f0])/\TrP w.heap.size w' d v x.1/\(∃ q,q<=s.length/\x.2=s.drop q/\Rd w' b s q dp)/\Fr b w w'
 | .error f=>∃ (v:Value) (t:Tr),TrP w.heap.size w' 1 v t/\e=.returned (.tuple #[v,fv s.length f])/\Fr b w w'
def PrtRes (b:Nat) (s:Ln) (dp:Nat) (w:World) (d:Nat) (r:Ot (List Tr × Ln)) (e:Ending) (w':World):Prop:=match r with
 | .ok x=>∃ (g m:Nat) (ys:List Value),e=.returned (.tuple #[.slice (some ⟨g,0,none⟩) m m,f0])/\m=x.1.length/\m<=2/\Bx w' g ys.toArray 35/\w.heap.size<=g/\Kd w.heap.size w' d ys x.1/\(∃ q,q<=s.length/\x.2=s.drop q/\Rd w' b s q dp)/\Fr b w w'
 | .error f=>∃ (ad:Option Addr) (m:Nat),e=.returned (.tuple #[.slice ad m m,fv s.length f])/\Fr b w w'
end Flw
namespace Flw
open Utf Rws Pln
open Go.RowKit
set_option maxHeartbeats 4000000
def sumT (m:Nat) (ks:List Tr) (j:Nat):Nat:=((ks.take j).map fun k=>cntT m k).sum
end Flw
end Go.Proofs.YtalijhclfppohaaGreatDoor
