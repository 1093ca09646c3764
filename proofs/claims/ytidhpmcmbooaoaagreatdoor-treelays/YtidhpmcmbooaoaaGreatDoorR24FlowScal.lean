/- . -/
import Derived.Test.YtidhpmcmbooaoaaGreatDoorR11FlowProp
import Derived.Test.YtidhpmcmbooaoaaGreatDoorR14PlainIs
import Derived.Test.YtidhpmcmbooaoaaGreatDoorR13PlainAny3
import Derived.Test.YtidhpmcmbooaoaaGreatDoorR23QuoteRead
import Derived.Test.YtidhpmcmbooaoaaGreatDoorR06TreeLeaf
import Derived.Test.YtidhpmcmbooaoaaGreatDoorR10FlowName
set_option linter.unusedSimpArgs false
set_option linter.unusedVariables false
set_option maxRecDepth 100000
namespace Go.Proofs.YtidhpmcmbooaoaaGreatDoor
namespace Flw
open Utf Rws Pln
open Go.RowKit
set_option maxHeartbeats 4000000
variable {b p dp:Nat} {s:Ln} {w w1 w2:World}
def Tb (w:World):Prop:=Pln.Tabs w/\Quo.Tabs w
theorem Tb.later (h:Tb w) (hb:Below w.heap.size w w1):Tb w1:=⟨h.1.later hb,h.2.later hb⟩
def TbB (b:Nat) (w:World):Prop:=∃ w0:World,Tb w0/\w0.heap.size<=b/\Below w0.heap.size w0 w
theorem TbB.tb (h:TbB b w):Tb w:=by obtain⟨w0,h1,h2,h3⟩:=h;exact h1.later h3
theorem TbB.fr (h:TbB b w) (hf:Fr b w w1):TbB b w1:=by obtain⟨w0,h1,h2,h3⟩:=h;exact⟨w0,h1,h2,h3.trans (hf.1.mono h2)⟩
theorem TbB.later (h:TbB b w) (hb:Below w.heap.size w w1):TbB b w1:=by obtain⟨w0,h1,h2,h3⟩:=h;exact⟨w0,h1,h2,h3.trans (hb.mono h3.size)⟩
/-! ### quoted texts: how far they go -/
theorem rdF_place (q:UInt8):∀ (f:Nat) (l:Ln) (at_:Nat) (out:Ln),(Quo.rdF q f l at_ out).2.2.2<=at_+l.length
 | 0,l,at_,out=>by rw[Quo.rdF];exact Nat.le_refl _
 | f+1,l,at_,out=>by
  rw[Quo.rdF];by_cases h1:(Quo.stp q l).1=0
  ·rw[if_pos h1];exact Nat.zero_le _
  rw[if_neg h1];by_cases h2:(Quo.stp q l).1=1
  ·rw[if_pos h2];obtain⟨n,hs,e,k1,k2⟩:=Quo.stp_out h2;have:=rdF_place q f (l.drop (Quo.stp q l).2.2) (at_+(Quo.stp q l).2.2) (out++(Quo.stp q l).2.1);rw[List.length_drop]at this;omega
  rw[if_neg h2];split
  ·exact Nat.le_refl _
  ·exact Nat.le_add_right _ _
theorem rd_place (l:Ln):(Quo.rd l).2.2.2<=l.length:=by
 unfold Quo.rd;by_cases h1:l=[]
 ·rw[if_pos h1];exact Nat.zero_le _
 rw[if_neg h1];by_cases h2:l.getD 0 0=39\/l.getD 0 0=34
 ·rw[if_pos h2];have:=rdF_place (l.getD 0 0) l.length (l.drop 1) 1 [];have hp:=List.length_pos_iff.2 h1;rw[List.length_drop]at this;omega
 ·rw[if_neg h2];exact Nat.zero_le _
theorem rdF_olen (q:UInt8):∀ (f:Nat) (l:Ln) (at_:Nat) (out:Ln),out.length<=at_->(Quo.rdF q f l at_ out).1.length<=at_+l.length
 | 0,l,at_,out,h=>by rw[Quo.rdF];exact Nat.zero_le _
 | f+1,l,at_,out,h=>by
  rw[Quo.rdF];by_cases h1:(Quo.stp q l).1=0
  ·rw[if_pos h1];show out.length<=_;omega
  rw[if_neg h1];by_cases h2:(Quo.stp q l).1=1
  ·rw[if_pos h2];obtain⟨n,hs,e,k1,k2⟩:=Quo.stp_out h2;have h3:=Quo.stp_le h2;have:=rdF_olen q f (l.drop (Quo.stp q l).2.2) (at_+(Quo.stp q l).2.2) (out++(Quo.stp q l).2.1) (by rw[List.length_append];omega);rw[List.length_drop]at this;omega
  rw[if_neg h2];split<;>exact Nat.zero_le _
theorem rd_olen (l:Ln):(Quo.rd l).1.length<=l.length:=by
 unfold Quo.rd;by_cases h1:l=[]
 ·rw[if_pos h1];exact Nat.zero_le _
 rw[if_neg h1];by_cases h2:l.getD 0 0=39\/l.getD 0 0=34
 ·rw[if_pos h2];have:=rdF_olen (l.getD 0 0) l.length (l.drop 1) 1 [] (Nat.zero_le _);have hp:=List.length_pos_iff.2 h1;rw[List.length_drop]at this;omega
 ·rw[if_neg h2];exact Nat.zero_le _
def lfV (k:Int) (x a:Ln):Value:=.agg #[.int .i64 k,.string (mk x),.string (mk a),.slice none 0 0]
def zT:Array Value:=#[.int .i64 0,.string ⟨#[]⟩,.string ⟨#[]⟩,.slice none 0 0]
def fill4 (w:World) (K:Nat) (x0 x1 x2 x3:Value):World:=(((w.setCell ⟨K,0,none⟩ x0).setCell ⟨K,1,none⟩ x1).setCell ⟨K,2,none⟩ x2).setCell ⟨K,3,none⟩ x3
theorem Bx.fill4 {K:Nat} {cs:Array Value} {t:TypeId} (h:Bx w K cs t) (hz:cs.size=4) (x0 x1 x2 x3:Value):Bx (fill4 w K x0 x1 x2 x3) K #[x0,x1,x2,x3] t:=by
 have e:(((cs.setIfInBounds 0 x0).setIfInBounds 1 x1).setIfInBounds 2 x2).setIfInBounds 3 x3=#[x0,x1,x2,x3]:=by
  obtain⟨l⟩:=cs
  match l,hz with
  | [_,_,_,_],_=>rfl
 exact e▸(((h.set 0 x0).set 1 x1).set 2 x2).set 3 x3
theorem below_fill4 {B K:Nat} (h:Below B w w1) (hK:B<=K) (x0 x1 x2 x3:Value):Below B w (fill4 w1 K x0 x1 x2 x3) :=
 (((h.setCell (p:=⟨K,0,none⟩) hK _).setCell (p:=⟨K,1,none⟩) hK _).setCell (p:=⟨K,2,none⟩) hK _).setCell (p:=⟨K,3,none⟩) hK _
theorem Fr.fill4 {K:Nat} (h:Fr b w w1) (hK:w.heap.size<=K) (hb:b<K) (x0 x1 x2 x3:Value):Fr b w (fill4 w1 K x0 x1 x2 x3):=(((h.new hK hb _ _).new hK hb _ _).new hK hb _ _).new hK hb _ _
theorem Rd.fill4 {K:Nat} (h:Rd w b s p dp) (hK:K≠b) (x0 x1 x2 x3:Value):Rd (fill4 w K x0 x1 x2 x3) b s p dp:=(((h.other hK _ _).other hK _ _).other hK _ _).other hK _ _
theorem Bx.fill4o {K K':Nat} {cs:Array Value} {t:TypeId} (h:Bx w K cs t) (hK:K≠K') (x0 x1 x2 x3:Value):Bx (Flw.fill4 w K' x0 x1 x2 x3) K cs t:=(((h.other hK _ _).other hK _ _).other hK _ _).other hK _ _
theorem plainTree_any (l:Ln) (hl:l.length<=65536) (hT:Tb w) :
  Calls Tryz.prog 191 #[.string (mk l)] w fun e w'=>e=.returned (lfV (knd l) (if knd l=1 then []else l) [])/\Below w.heap.size w w':=by
 have hb0:=below_alloc w (.cells zT 24)
 have HR:Hid (Calls Tryz.prog 44 #[.string (mk l)] (w.alloc (.cells zT 24)) fun e w'=>e=.returned (.int .i64 (knd l))/\Bx w' w.heap.size zT 24/\Hid (Below w.heap.size w w')) :=
  (resolve_any l _ (by omega) (hT.later hb0).1).mono (fun e w' h=>⟨h.1,(Bx.new w zT 24).later h.2,hb0.trans (h.2.mono (by simp))⟩)
 have hk:=knd_bd l;generalize knd l=k at *;clear hT hb0;obtain⟨W,hW⟩:∃ W,w.alloc (.cells zT 24)=W:=⟨_,rfl⟩;rw[hW]at HR;have hW':w.alloc (.cells #[.int .i64 0,.string ⟨#[]⟩,.string ⟨#[]⟩,.slice none 0 0] 24)=W:=hW;clear hW;by_cases e1:k=1
 ·subst e1;go_enter Tryz.func191,Tryz.ntmps191;go_wp2_with fail;refine HR.out.mono ?_;rintro e w3 ⟨rfl,hx,hb⟩;have HF:=hx.fill4 rfl (.int .i64 1) (.string ⟨#[]⟩) (.string ⟨#[]⟩) (.slice none 0 0);have HBF:Hid (Below w.heap.size w (fill4 w3 w.heap.size (.int .i64 1) (.string ⟨#[]⟩) (.string ⟨#[]⟩) (.slice none 0 0))):=below_fill4 hb.out (Nat.le_refl _) _ _ _ _;have c0:=hx.cell 0;have c1:=hx.cell 1;have c2:=hx.cell 2;have c3:=hx.cell 3;have z0:=hx.fz 0;have z1:=hx.fz 1;have z2:=hx.fz 2;have z3:=hx.fz 3;simp only[zT]at c0 c1 c2 c3;clear hx;go_wp2;change bodyPost _ _ _ _ _ (fill4 w3 w.heap.size (.int .i64 1) (.string ⟨#[]⟩) (.string ⟨#[]⟩) (.slice none 0 0));generalize fill4 w3 w.heap.size (.int .i64 1) (.string ⟨#[]⟩) (.string ⟨#[]⟩) (.slice none 0 0)=WF at HF HBF |-;have j0:=HF.cell 0;have j1:=HF.cell 1;have j2:=HF.cell 2;have j3:=HF.cell 3;refine bodyPost_ret (v:=.agg #[.int .i64 1,.string ⟨#[]⟩,.string ⟨#[]⟩,.slice none 0 0]) (by simp[results,Tryz.results191,go_sem,j0,j1,j2,j3]) rfl ?_;exact⟨rfl,HBF.out⟩
 ·have hke:(k==1)=false:=by simpa using e1
  go_enter Tryz.func191,Tryz.ntmps191;go_wp2_with fail;refine HR.out.mono ?_;rintro e w3 ⟨rfl,hx,hb⟩;have HF:=hx.fill4 rfl (.int .i64 k) (.string (mk l)) (.string ⟨#[]⟩) (.slice none 0 0);have HBF:Hid (Below w.heap.size w (fill4 w3 w.heap.size (.int .i64 k) (.string (mk l)) (.string ⟨#[]⟩) (.slice none 0 0))):=below_fill4 hb.out (Nat.le_refl _) _ _ _ _;have c0:=hx.cell 0;have c1:=hx.cell 1;have c2:=hx.cell 2;have c3:=hx.cell 3;have z0:=hx.fz 0;have z1:=hx.fz 1;have z2:=hx.fz 2;have z3:=hx.fz 3;simp only[zT]at c0 c1 c2 c3;clear hx;go_wp2;change bodyPost _ _ _ _ _ (fill4 w3 w.heap.size (.int .i64 k) (.string (mk l)) (.string ⟨#[]⟩) (.slice none 0 0));generalize fill4 w3 w.heap.size (.int .i64 k) (.string (mk l)) (.string ⟨#[]⟩) (.slice none 0 0)=WF at HF HBF |-;have j0:=HF.cell 0;have j1:=HF.cell 1;have j2:=HF.cell 2;have j3:=HF.cell 3;refine bodyPost_ret (v:=.agg #[.int .i64 k,.string (mk l),.string ⟨#[]⟩,.slice none 0 0]) (by simp[results,Tryz.results191,go_sem,j0,j1,j2,j3]) rfl ?_;exact⟨rfl,HBF.out⟩
theorem unquoted_any (f:Bool) (h:Rd w b s p dp) (hp:p<=s.length) (hs:s.length<=65536) :
  Calls Tryz.prog 190 #[.pointer (some ⟨b,0,none⟩),.bool f] w fun e w'=>NamRes b s dp w (lplain f (s.drop p)) e w':=by
 have hlt:=h.lt;have hb0:=below_alloc w (.cells zF 33);have hr0:=h.later hb0;have hsz:=mk_size s;have hn:=nx_le s p;have hex:(mk s).extract (nx s p) s.length=mk (gaps (s.drop p)):=by rw[mk_ext,drop_nx s hp,List.take_of_length_le (by rw[gaps_nx s hp];omega)]
 have hgl:=gaps_nx s hp;have hcl:=cutT_len (gaps (s.drop p)) f;have hfl:=fin_le (gaps (s.drop p)) f;obtain⟨W,hW⟩:∃ W,w.alloc (.cells zF 33)=W:=⟨_,rfl⟩;rw[hW]at hb0 hr0;have hW':w.alloc (.cells #[.int .i64 0,.int .i64 0] 33)=W:=hW;have hx0:Bx W w.heap.size zF 33:=by rw[<-hW];exact Bx.new w zF 33
 clear hW;have HN:Hid (Calls Tryz.prog 164 #[.pointer (some ⟨b,0,none⟩)] W fun e w'=>e=.returned (.int .i64 (nx s p:Nat))/\w'.cell? ⟨b,0,none⟩=some (.string (mk s))/\∃ n,w'=W.drewN n):=(next_any hr0 hp hs).mono (fun e w' h=>⟨h.1,by obtain⟨n,rfl⟩:=h.2;exact hr0.c0,h.2⟩)
 have HC:Hid (∀ n,Calls Tryz.prog 101 #[.string (mk (gaps (s.drop p))),.bool f] (W.drewN n) fun e w'=>e=.returned (.tuple #[.string (mk (cutT (gaps (s.drop p)) f)),.int .i64 (fin (gaps (s.drop p)) f)])/\Hid (Rd w' b s p dp/\Bx w' w.heap.size zF 33/\Below w.heap.size w w')):=fun n =>
  (cut_any _ f _ (by omega)).mono (fun e w' h=>⟨h.1,(hr0.drew n).later h.2,(hx0.drew n).later h.2,(below_drewN hb0 n).trans (h.2.mono (by show w.heap.size<=W.heap.size;exact hb0.size))⟩)
 have HI:Hid (∀ w,Calls Tryz.prog 43 #[.string (mk (cutT (gaps (s.drop p)) f)),.bool f] w fun e w'=>e=.returned (.bool (isP (cutT (gaps (s.drop p)) f) f))/\Below w.heap.size w w'):=fun w=>is_any _ f w (by omega)
 have hce:((mk (cutT (gaps (s.drop p)) f)).toList==[])=(cutT (gaps (s.drop p)) f==[]):=by rw[ByteArray.toList_eq,mk_data]
 have hcz:=mk_size (cutT (gaps (s.drop p)) f)
 have HL:Hid (lplain f (s.drop p)=if cutT (gaps (s.drop p)) f=[]then .ok ([],s.drop p)else if isP (cutT (gaps (s.drop p)) f) f=false then .error (3,s.length-nx s p)else .ok (cutT (gaps (s.drop p)) f,s.drop (nx s p+(cutT (gaps (s.drop p)) f).length))):=by
  unfold lplain;rw[gaps_nx s hp,<-List.drop_drop,drop_nx s hp];exact rfl
 have HNX:Hid (p<=nx s p):=nx_ge s hp;generalize cutT (gaps (s.drop p)) f=C at *;generalize isP C f=I at *;generalize fin (gaps (s.drop p)) f=FN at *;generalize mk (gaps (s.drop p))=X at *;generalize (gaps (s.drop p)).length=G at *;generalize nx s p=n at *;clear h hr0 hx0 hb0;by_cases hC:C=[]
 ·subst hC;have HV:Hid (lplain f (s.drop p)=.ok ([],s.drop p)):=HL.out;go_enter Tryz.func190,Tryz.ntmps190;go_wp2_with fail;refine HN.out.mono ?_;rintro e w1 ⟨rfl,c0,k,rfl⟩;go_wp2_with fail;refine(HC.out k).mono ?_;rintro e w3 ⟨rfl,hX⟩;obtain⟨d0,d1⟩:=hX.out.2.1.c2;have d2:=hX.out.2.1.fz 0;have d3:=hX.out.2.1.fz 1;go_wp2;refine bodyPost_ret (v:=.tuple #[.string ⟨#[]⟩,.agg #[.int .i64 0,.int .i64 0]]) (by simp[results,Tryz.results190,go_sem,d0,d1]) rfl ?_;rw[HV.out];exact⟨rfl,⟨p,hp,rfl,hX.out.1.box (by omega) _ _⟩,(Fr.of hX.out.2.2 hlt).box (Nat.le_refl _) hlt _ _⟩
 ·have hCe:(C==[])=false:=by simpa using hC
  rw[hCe]at hce;cases I
  ·have HV:Hid (lplain f (s.drop p)=.error (3,s.length-n)):=by have:=HL.out;rw[if_neg hC,if_pos rfl]at this;exact this
   go_enter Tryz.func190,Tryz.ntmps190;go_wp2_with fail;refine HN.out.mono ?_;rintro e w1 ⟨rfl,c0,k,rfl⟩;go_wp2_with fail;refine(HC.out k).mono ?_;rintro e w3 ⟨rfl,hX⟩;go_wp2_with fail;refine(HI.out _).mono ?_;rintro e w4 ⟨rfl,hb4⟩;have hX4:=hX.out.2.1.later hb4;have hB4:Below w.heap.size w w4:=hX.out.2.2.trans (hb4.mono hX.out.2.2.size);obtain⟨d0,d1⟩:=hX4.c2;have d2:=hX4.fz 0;have d3:=hX4.fz 1;have HB4:Hid (Below w.heap.size w w4):=hB4;clear hB4 hb4 hX4;go_wp2;refine bodyPost_ret (v:=.tuple #[.string ⟨#[]⟩,.agg #[.int .i64 3,.int .i64 (n:Int)]]) (by simp[results,Tryz.results190,go_sem,d0,d1]) rfl ?_;rw[HV.out];exact⟨by rw[fv_at 3 hn];rfl,(Fr.of HB4.out hlt).box (Nat.le_refl _) hlt _ _⟩
  ·have HV:Hid (lplain f (s.drop p)=.ok (C,s.drop (n+C.length))):=by have:=HL.out;rw[if_neg hC,if_neg (by decide)]at this;exact this
   have hnc:n+C.length<=s.length:=by omega
   go_enter Tryz.func190,Tryz.ntmps190;go_wp2_with fail;refine HN.out.mono ?_;rintro e w1 ⟨rfl,c0,k,rfl⟩;go_wp2_with fail;refine(HC.out k).mono ?_;rintro e w3 ⟨rfl,hX⟩;go_wp2_with fail;refine(HI.out _).mono ?_;rintro e w4 ⟨rfl,hb4⟩;have hr4:=hX.out.1.later hb4;have hX4:=hX.out.2.1.later hb4;have hB4:Below w.heap.size w w4:=hX.out.2.2.trans (hb4.mono hX.out.2.2.size);have z1:=hr4.fz 1;have c1:=hr4.c1;have hR5:=hr4.set1 (n+C.length);have hF5:Fr b w (w4.setCell ⟨b,1,none⟩ (.int .i64 ((n+C.length:Nat):Int))):=(Fr.of hB4 hlt).set 1 _;have hX5:=hX4.other (j:=b) (show w.heap.size≠b by omega) 1 (.int .i64 ((n+C.length:Nat):Int));obtain⟨w5,hw5⟩:∃ w5,w4.setCell ⟨b,1,none⟩ (.int .i64 ((n+C.length:Nat):Int))=w5:=⟨_,rfl⟩;rw[hw5]at hR5 hF5 hX5;rw[Int.natCast_add]at hw5;obtain⟨d0,d1⟩:=hX5.c2;have d2:=hX5.fz 0;have d3:=hX5.fz 1;have HR5:Hid (Rd w5 b s (n+C.length) dp):=hR5;have HF5:Hid (Fr b w w5):=hF5;clear hr4 hX4 hB4 hb4 hR5 hF5 hX5 hX HC HI HN;go_wp2;refine bodyPost_ret (v:=.tuple #[.string (mk C),.agg #[.int .i64 0,.int .i64 0]]) (by simp[results,Tryz.results190,go_sem,d0,d1]) rfl ?_;rw[HV.out];exact⟨rfl,⟨n+C.length,hnc,rfl,HR5.out.box (by omega) _ _⟩,HF5.out.box (Nat.le_refl _) hlt _ _⟩
theorem quoted_any (h:Rd w b s p dp) (hp:p<=s.length) (hs:s.length<=65536) (hT:TbB b w) :
  Calls Tryz.prog 189 #[.pointer (some ⟨b,0,none⟩)] w fun e w'=>NamRes b s dp w (quoted (gaps (s.drop p))) e w':=by
 have hlt:=h.lt;have hb0:=below_alloc w (.cells zF 33);have hr0:=h.later hb0;have hsz:=mk_size s;have hn:=nx_le s p;have hex:(mk s).extract (nx s p) s.length=mk (gaps (s.drop p)):=by rw[mk_ext,drop_nx s hp,List.take_of_length_le (by rw[gaps_nx s hp];omega)]
 have hgl:=gaps_nx s hp;obtain⟨W,hW⟩:∃ W,w.alloc (.cells zF 33)=W:=⟨_,rfl⟩;rw[hW]at hb0 hr0;have hW':w.alloc (.cells #[.int .i64 0,.int .i64 0] 33)=W:=hW;have hx0:Bx W w.heap.size zF 33:=by rw[<-hW];exact Bx.new w zF 33
 clear hW;have HN:Hid (Calls Tryz.prog 164 #[.pointer (some ⟨b,0,none⟩)] W fun e w'=>e=.returned (.int .i64 (nx s p:Nat))/\w'.cell? ⟨b,0,none⟩=some (.string (mk s))/\∃ n,w'=W.drewN n):=(next_any hr0 hp hs).mono (fun e w' h=>⟨h.1,by obtain⟨n,rfl⟩:=h.2;exact hr0.c0,h.2⟩);have hpl:=rd_place (gaps (s.drop p));have hme:=Quo.rd_means (gaps (s.drop p))
 have HQ:Hid (∀ n,Calls Tryz.prog 100 #[.string (mk (gaps (s.drop p)))] (W.drewN n) fun e w'=>e=.returned (.tuple #[.string (mk (Quo.rd (gaps (s.drop p))).1),.int .i64 ((Quo.rd (gaps (s.drop p))).2.1:Int),.agg #[.int .i64 ((Quo.rd (gaps (s.drop p))).2.2.1:Int),.int .i64 ((Quo.rd (gaps (s.drop p))).2.2.2:Int)]])/\Hid (Rd w' b s p dp/\Bx w' w.heap.size zF 33/\Below w.heap.size w w')):=fun n =>
  (Quo.read_any _ _ (by omega) ((hT.later hb0).later (below_drewN (Below.refl _ _) n)).tb.2).mono (fun e w' h=>⟨h.1,(hr0.drew n).later h.2,(hx0.drew n).later h.2,(below_drewN hb0 n).trans (h.2.mono (by show w.heap.size<=W.heap.size;exact hb0.size))⟩)
 have HL:Hid (quoted (gaps (s.drop p))=if (Quo.rd (gaps (s.drop p))).2.2.1≠0 then .error ((Quo.rd (gaps (s.drop p))).2.2.1,s.length-(nx s p+(Quo.rd (gaps (s.drop p))).2.2.2))else .ok ((Quo.rd (gaps (s.drop p))).1,s.drop (nx s p+(Quo.rd (gaps (s.drop p))).2.1))):=by
  unfold quoted;rw[gaps_nx s hp,<-List.drop_drop,drop_nx s hp,Nat.sub_sub];exact rfl
 rw[hgl]at hpl hme;generalize Quo.rd (gaps (s.drop p))=r at hpl hme HQ HL;obtain⟨T,L,Y,A⟩:=r;simp only at hpl hme HQ HL;generalize mk (gaps (s.drop p))=X at *;generalize (gaps (s.drop p)).length=G at *;generalize nx s p=n at *;clear h hr0 hx0 hb0 hT;by_cases hY:Y=0
 ·subst hY;have hme:=hme rfl;have HV:Hid (quoted (gaps (s.drop p))=.ok (T,s.drop (n+L))):=HL.out;have hnl:n+L<=s.length:=by omega
  go_enter Tryz.func189,Tryz.ntmps189;go_wp2_with fail;refine HN.out.mono ?_;rintro e w1 ⟨rfl,c0,k,rfl⟩;go_wp2_with fail;refine(HQ.out k).mono ?_;rintro e w3 ⟨rfl,hX⟩;have hb4:=below_alloc w3 (.cells #[.int .i64 0,.int .i64 (A:Int)] 33);have hKF:w.heap.size<w3.heap.size:=hX.out.2.1.lt;have hr4:=hX.out.1.later hb4;have hX4:=hX.out.2.1.later hb4;have hB4:=hX.out.2.2.trans (hb4.mono hX.out.2.2.size);have hF4:=Bx.new w3 #[.int .i64 0,.int .i64 (A:Int)] 33;obtain⟨w4,hw4⟩:∃ w4,w3.alloc (.cells #[.int .i64 0,.int .i64 (A:Int)] 33)=w4:=⟨_,rfl⟩;rw[hw4]at hr4 hX4 hB4 hF4;have i0:w4.cell? ⟨w3.heap.size,0,none⟩=some (.int .i64 0):=hF4.cell 0;have z1:=hr4.fz 1;have c1:=hr4.c1;have hR5:=hr4.set1 (n+L);have hF5:Fr b w (w4.setCell ⟨b,1,none⟩ (.int .i64 ((n+L:Nat):Int))):=(Fr.of hB4 hlt).set 1 _;have hX5:=hX4.other (j:=b) (show w.heap.size≠b by omega) 1 (.int .i64 ((n+L:Nat):Int));obtain⟨w5,hw5⟩:∃ w5,w4.setCell ⟨b,1,none⟩ (.int .i64 ((n+L:Nat):Int))=w5:=⟨_,rfl⟩;rw[hw5]at hR5 hF5 hX5;rw[Int.natCast_add]at hw5;obtain⟨d0,d1⟩:=hX5.c2;have d2:=hX5.fz 0;have d3:=hX5.fz 1;have HR5:Hid (Rd w5 b s (n+L) dp):=hR5;have HF5:Hid (Fr b w w5):=hF5;clear hr4 hX4 hB4 hb4 hF4 hR5 hF5 hX5 hX HQ HN;go_wp2;refine bodyPost_ret (v:=.tuple #[.string (mk T),.agg #[.int .i64 0,.int .i64 0]]) (by simp[results,Tryz.results189,go_sem,d0,d1]) rfl ?_;rw[HV.out];exact⟨rfl,⟨n+L,hnl,rfl,HR5.out.box (by omega) _ _⟩,HF5.out.box (Nat.le_refl _) hlt _ _⟩
 ·have HV:Hid (quoted (gaps (s.drop p))=.error (Y,s.length-(n+A))):=by have:=HL.out;rw[if_pos hY]at this;exact this
  have hYe:((Y:Int)!=0)=true:=by simpa using hY
  have hYf:((Y:Int)==0)=false:=by simpa using hY
  have hna:n+A<=s.length:=by omega
  go_enter Tryz.func189,Tryz.ntmps189;go_wp2_with fail;refine HN.out.mono ?_;rintro e w1 ⟨rfl,c0,k,rfl⟩;go_wp2_with fail;refine(HQ.out k).mono ?_;rintro e w3 ⟨rfl,hX⟩;have hb4:=below_alloc w3 (.cells #[.int .i64 (Y:Int),.int .i64 (A:Int)] 33);have hKF:w.heap.size<w3.heap.size:=hX.out.2.1.lt;have hX4:=hX.out.2.1.later hb4;have hB4:=hX.out.2.2.trans (hb4.mono hX.out.2.2.size);have hF4:=Bx.new w3 #[.int .i64 (Y:Int),.int .i64 (A:Int)] 33;obtain⟨w4,hw4⟩:∃ w4,w3.alloc (.cells #[.int .i64 (Y:Int),.int .i64 (A:Int)] 33)=w4:=⟨_,rfl⟩;rw[hw4]at hX4 hB4 hF4;have hne1:w3.heap.size≠w.heap.size:=by omega
  have hne2:w.heap.size≠w3.heap.size:=by omega
  obtain⟨i0,i1⟩:=hF4.c2;have i2:w4.frozen? ⟨w3.heap.size,1,none⟩=false:=hF4.fz 1;have hF5:=hF4.set 1 (.int .i64 ((A+n:Nat):Int));have hX5:=hX4.other (j:=w3.heap.size) (by omega) 1 (.int .i64 ((A+n:Nat):Int));have hB5:Below w.heap.size w (w4.setCell ⟨w3.heap.size,1,none⟩ (.int .i64 ((A+n:Nat):Int))):=hB4.setCell (p:=⟨w3.heap.size,1,none⟩) (by show w.heap.size<=w3.heap.size;omega) _;obtain⟨w5,hw5⟩:∃ w5,w4.setCell ⟨w3.heap.size,1,none⟩ (.int .i64 ((A+n:Nat):Int))=w5:=⟨_,rfl⟩;rw[hw5]at hF5 hX5 hB5;rw[Int.natCast_add]at hw5;have l0:w5.cell? ⟨w3.heap.size,0,none⟩=some (.int .i64 (Y:Int)):=hF5.cell 0;have l1:w5.cell? ⟨w3.heap.size,1,none⟩=some (.int .i64 ((A:Int)+(n:Int))):=by have:=hF5.cell 1;rw[Int.natCast_add]at this;exact this
  obtain⟨d0,d1⟩:=hX5.c2;have d2:=hX5.fz 0;have d3:=hX5.fz 1;have HB5:Hid (Below w.heap.size w w5):=hB5;clear hX4 hB4 hb4 hF4 hF5 hX5 hB5 hX HQ HN;go_wp2;go_region
  all_goals
   go_wp2;refine bodyPost_ret (v:=.tuple #[.string ⟨#[]⟩,.agg #[.int .i64 (Y:Int),.int .i64 ((A:Int)+(n:Int))]]) (by simp[results,Tryz.results189,go_sem,d0,d1]) rfl ?_;rw[HV.out];refine⟨by rw[fv_at Y hna,Int.natCast_add,Int.add_comm];rfl,?_⟩;exact((Fr.of HB5.out hlt).box (Nat.le_refl _) hlt _ _).drew
end Flw
namespace Tre
open Utf Rws Pln Flw
open Go.RowKit
set_option maxHeartbeats 4000000
def tgw (l:Ln):Int :=
 if l=[33,33,110,117,108,108]then 1 else if l=[33,33,98,111,111,108]then 2 else if l=[33,33,105,110,116]then 3 else if l=[33,33,115,116,114]then 4
 else if l=[33,33,115,101,113]then 5 else if l=[33,33,109,97,112]then 6 else 0
structure Pp where
 anc:Ln
 tag:Int
def wth (p:Pp) (l:Ln):Pp :=
 if hd l=38 then (if p.anc=[]/\isName (l.drop 1)=true then ⟨l.drop 1,p.tag⟩else p)else if p.tag=0 then ⟨p.anc,tgw l⟩else p
theorem eqL (l c:Ln):((mk l).toList==c)=decide (l=c):=by rw[ByteArray.toList_eq,mk_data,Bool.eq_iff_iff];simp
theorem kindOf_any (l:Ln) (w:World):Calls Tryz.prog 73 #[.string (mk l)] w fun e w'=>e=.returned (.int .i64 (tgw l))/\w=w':=by
 have e1:=eqL l [33,33,110,117,108,108];have e2:=eqL l [33,33,98,111,111,108];have e3:=eqL l [33,33,105,110,116];have e4:=eqL l [33,33,115,116,114];have e5:=eqL l [33,33,115,101,113];have e6:=eqL l [33,33,109,97,112]
 have HV:Hid (tgw l=if l=[33,33,110,117,108,108]then 1 else if l=[33,33,98,111,111,108]then 2 else if l=[33,33,105,110,116]then 3 else if l=[33,33,115,116,114]then 4
  else if l=[33,33,115,101,113]then 5 else if l=[33,33,109,97,112]then 6 else 0):=rfl
 by_cases h1:l=[33,33,110,117,108,108]
 ·rw[if_pos h1]at HV;rw[decide_eq_true h1]at e1;clear e2 e3 e4 e5 e6 h1;go_enter Tryz.func73,Tryz.ntmps73;go_wp2;go_ret;exact⟨by rw[HV.out];rfl,rfl⟩
 rw[if_neg h1]at HV;rw[decide_eq_false h1]at e1;by_cases h2:l=[33,33,98,111,111,108]
 ·rw[if_pos h2]at HV;rw[decide_eq_true h2]at e2;clear e3 e4 e5 e6 h1 h2;go_enter Tryz.func73,Tryz.ntmps73;go_wp2;go_ret;exact⟨by rw[HV.out];rfl,rfl⟩
 rw[if_neg h2]at HV;rw[decide_eq_false h2]at e2;by_cases h3:l=[33,33,105,110,116]
 ·rw[if_pos h3]at HV;rw[decide_eq_true h3]at e3;clear e4 e5 e6 h1 h2 h3;go_enter Tryz.func73,Tryz.ntmps73;go_wp2;go_ret;exact⟨by rw[HV.out];rfl,rfl⟩
 rw[if_neg h3]at HV;rw[decide_eq_false h3]at e3;by_cases h4:l=[33,33,115,116,114]
 ·rw[if_pos h4]at HV;rw[decide_eq_true h4]at e4;clear e5 e6 h1 h2 h3 h4;go_enter Tryz.func73,Tryz.ntmps73;go_wp2;go_ret;exact⟨by rw[HV.out];rfl,rfl⟩
 rw[if_neg h4]at HV;rw[decide_eq_false h4]at e4;by_cases h5:l=[33,33,115,101,113]
 ·rw[if_pos h5]at HV;rw[decide_eq_true h5]at e5;clear e6 h1 h2 h3 h4 h5;go_enter Tryz.func73,Tryz.ntmps73;go_wp2;go_ret;exact⟨by rw[HV.out];rfl,rfl⟩
 rw[if_neg h5]at HV;rw[decide_eq_false h5]at e5;by_cases h6:l=[33,33,109,97,112]
 ·rw[if_pos h6]at HV;rw[decide_eq_true h6]at e6;clear h1 h2 h3 h4 h5 h6;go_enter Tryz.func73,Tryz.ntmps73;go_wp2;go_ret;exact⟨by rw[HV.out];rfl,rfl⟩
 ·rw[if_neg h6]at HV;rw[decide_eq_false h6]at e6;clear h1 h2 h3 h4 h5 h6;go_enter Tryz.func73,Tryz.ntmps73;go_wp2;go_ret;exact⟨by rw[HV.out];rfl,rfl⟩
abbrev pV (p:Pp):Value:=.agg #[.string (mk p.anc),.int .i64 p.tag]
theorem with_any (p:Pp) (l:Ln) (w:World) (hl:l.length<=140737488351232) (hp: -9223372036854775808<=p.tag/\p.tag<=9223372036854775807):Calls Tryz.prog 51 #[pV p,.string (mk l)] w fun e w'=>e=.returned (pV (wth p l))/\Below w.heap.size w w':=by
 obtain⟨a,t⟩:=p;have HC:Hid (∀ w0,Calls Tryz.prog 72 #[.string (mk l),.string ⟨#[38]⟩] w0 fun e w'=>e=.returned (.tuple #[.string (mk (if hd l=38 then l.drop 1 else l)),.bool (hd l==38)])/\w0=w'):=fun w0=>cutPrefix_any l 38 w0 (by omega) (by decide)
 have HK:Hid (∀ w0,Calls Tryz.prog 73 #[.string (mk l)] w0 fun e w'=>e=.returned (.int .i64 (tgw l))/\w0=w'):=fun w0=>kindOf_any l w0
 have HN:Hid (∀ w0,Calls Tryz.prog 69 #[.string (mk (l.drop 1))] w0 fun e w'=>e=.returned (.bool (isName (l.drop 1)))/\w0=w'):=fun w0=>name0_any _ w0 (by rw[List.length_drop];omega)
 have e1:((mk a).toList==[])=(a==[]):=by rw[ByteArray.toList_eq,mk_data]
 have e2:(mk a).toList.isEmpty=(a==[]):=by rw[ByteArray.toList_eq,mk_data];cases a<;>rfl
 by_cases h38:hd l=38
 ·rw[if_pos h38,show (hd l==38)=true by simpa using h38]at HC;cases ha:(a==[])
  ·have ha2:a≠[]:=by simpa using ha
   have HV:Hid (wth ⟨a,t⟩ l=⟨a,t⟩):=by unfold wth;rw[if_pos h38,if_neg (fun h=>ha2 h.1)];exact rfl
   rw[HV.out];rw[ha]at e1 e2;clear HV h38 ha ha2;generalize l.drop 1=d at *;go_enter Tryz.func51,Tryz.ntmps51;go_wp2_with (first | (go_at_call 72;refine(HC.out _).mono ?_;rintro e w' ⟨rfl,rfl⟩) | (go_at_call 73;refine(HK.out _).mono ?_;rintro e w' ⟨rfl,rfl⟩) | (go_at_call 69;refine(HN.out _).mono ?_;rintro e w' ⟨rfl,rfl⟩));exact bodyPost_ret (v:=.agg #[.string (mk a),.int .i64 (t)]) (by simp[results,Tryz.results51,go_sem]) rfl ⟨rfl,(below_alloc _ _).trans ((below_alloc _ _).mono (by simp))⟩
  ·have ha2:a=[]:=by simpa using ha
   rw[ha]at e1 e2;cases hn:isName (l.drop 1)
   ·have HV:Hid (wth ⟨a,t⟩ l=⟨a,t⟩):=by unfold wth;rw[if_pos h38,if_neg (fun h=>by rw[hn]at h;cases h.2)];exact rfl
    rw[HV.out];rw[hn]at HN;clear HV h38 ha ha2 hn;generalize l.drop 1=d at *;go_enter Tryz.func51,Tryz.ntmps51;go_wp2_with (first | (go_at_call 72;refine(HC.out _).mono ?_;rintro e w' ⟨rfl,rfl⟩) | (go_at_call 73;refine(HK.out _).mono ?_;rintro e w' ⟨rfl,rfl⟩) | (go_at_call 69;refine(HN.out _).mono ?_;rintro e w' ⟨rfl,rfl⟩));exact bodyPost_ret (v:=.agg #[.string (mk a),.int .i64 (t)]) (by simp[results,Tryz.results51,go_sem]) rfl ⟨rfl,(below_alloc _ _).trans ((below_alloc _ _).mono (by simp))⟩
   ·have HV:Hid (wth ⟨a,t⟩ l=⟨l.drop 1,t⟩):=by unfold wth;rw[if_pos h38,if_pos ⟨ha2,hn⟩];exact rfl
    rw[HV.out];rw[hn]at HN;clear HV h38 ha ha2 hn;generalize l.drop 1=d at *;go_enter Tryz.func51,Tryz.ntmps51;go_wp2_with (first | (go_at_call 72;refine(HC.out _).mono ?_;rintro e w' ⟨rfl,rfl⟩) | (go_at_call 73;refine(HK.out _).mono ?_;rintro e w' ⟨rfl,rfl⟩) | (go_at_call 69;refine(HN.out _).mono ?_;rintro e w' ⟨rfl,rfl⟩));exact bodyPost_ret (v:=.agg #[.string (mk d),.int .i64 (t)]) (by simp[results,Tryz.results51,go_sem]) rfl ⟨rfl,(below_alloc _ _).trans ((below_alloc _ _).mono (by simp))⟩
 ·rw[if_neg h38,show (hd l==38)=false by simpa using h38]at HC;by_cases ht:t=0
  ·subst ht;have HV:Hid (wth ⟨a,0⟩ l=⟨a,tgw l⟩):=by unfold wth;rw[if_neg h38,if_pos rfl];exact rfl
   rw[HV.out];clear HV h38 e1 e2;generalize tgw l=k at *;go_enter Tryz.func51,Tryz.ntmps51;go_wp2_with (first | (go_at_call 72;refine(HC.out _).mono ?_;rintro e w' ⟨rfl,rfl⟩) | (go_at_call 73;refine(HK.out _).mono ?_;rintro e w' ⟨rfl,rfl⟩) | (go_at_call 69;refine(HN.out _).mono ?_;rintro e w' ⟨rfl,rfl⟩));exact bodyPost_ret (v:=.agg #[.string (mk a),.int .i64 (k)]) (by simp[results,Tryz.results51,go_sem]) rfl ⟨rfl,(below_alloc _ _).trans ((below_alloc _ _).mono (by simp))⟩
  ·have HV:Hid (wth ⟨a,t⟩ l=⟨a,t⟩):=by unfold wth;rw[if_neg h38,if_neg ht];exact rfl
   have ht0:(t==0)=false:=by simpa using ht
   rw[HV.out];clear HV h38 e1 e2 ht;go_enter Tryz.func51,Tryz.ntmps51;go_wp2_with (first | (go_at_call 72;refine(HC.out _).mono ?_;rintro e w' ⟨rfl,rfl⟩) | (go_at_call 73;refine(HK.out _).mono ?_;rintro e w' ⟨rfl,rfl⟩) | (go_at_call 69;refine(HN.out _).mono ?_;rintro e w' ⟨rfl,rfl⟩));exact bodyPost_ret (v:=.agg #[.string (mk a),.int .i64 (t)]) (by simp[results,Tryz.results51,go_sem]) rfl ⟨rfl,(below_alloc _ _).trans ((below_alloc _ _).mono (by simp))⟩
/-! ### strings.Cut at a blank -/
def wrd (l:Ln):Ln:=l.takeWhile (· != 32)
def beh (l:Ln):Ln:=l.drop ((wrd l).length+1)
theorem wrd_take (l:Ln):l.take (wrd l).length=wrd l:=by
 induction l with
 | nil=>rfl
 | cons b r ih =>
  unfold wrd at *;rw[List.takeWhile_cons];split
  ·simp only[List.length_cons,List.take_succ_cons,ih]
  ·rfl
theorem wrd_no {l:Ln} (h:has 32 l=false):wrd l=l:=by
 induction l with
 | nil=>rfl
 | cons b r ih =>
  unfold has at h;simp only[List.any_cons,Bool.or_eq_false_iff]at h;unfold wrd at *;rw[List.takeWhile_cons,if_pos (by simpa using h.1),ih (by unfold has;exact h.2)]
theorem wrd_le (l:Ln):(wrd l).length<=l.length:=by
 have:=congrArg List.length (wrd_take l);rw[List.length_take]at this;omega
theorem index32_any (s:ByteArray) (w:World):Calls Tryz.prog 98 #[.string s,.string ⟨#[32]⟩] w fun e w'=>e=.returned (.int .i64 (idx 32 s.data.toList))/\w=w':=by
 by_cases hs:s=⟨#[32]⟩
 ·subst hs;go_enter Tryz.func98,Tryz.ntmps98;go_wp2;go_ret;exact⟨by simp[idx,has],rfl⟩
 ·have hne:([32]==s.toList)=false:=by
   rw[beq_eq_false_iff_ne];intro h;apply hs;rw[ByteArray.toList_eq]at h;rw[<-mk_of s,<-h];rfl
  go_enter Tryz.func98,Tryz.ntmps98;go_wp2_with (first | (go_at_call 126;refine(indexByteL_any _ 32 _).mono ?_;rintro e w' ⟨rfl,rfl⟩));go_ret;exact⟨rfl,rfl⟩
theorem cutL_any (l:Ln) (w:World) (hs:l.length<=140737488355328):Calls Tryz.prog 71 #[.string (mk l),.string ⟨#[32]⟩] w fun e w'=>e=.returned (.tuple #[.string (mk (wrd l)),.string (mk (beh l)),.bool (has 32 l)])/\Below w.heap.size w w':=by
 have hsz:=mk_size l;have H:Hid ((mk l).size=l.length):=hsz;clear hsz;cases hh:has 32 l
 ·have hi:idx 32 l= -1:=idx_no hh
  have HC:Hid (mk (wrd l)=mk l/\mk (beh l)=⟨#[]⟩):=by
   have e:=wrd_no hh;refine⟨by rw[e],?_⟩;unfold beh;rw[e,List.drop_eq_nil_of_le (by omega)];rfl
  rw[HC.out.1,HC.out.2];go_enter Tryz.func71,Tryz.ntmps71;go_wp2_with (first | (go_at_call 98;refine(index32_any _ _).mono ?_;rintro e w' ⟨rfl,rfl⟩;rw[mk_data,hi]));exact bodyPost_ret (v:=.tuple #[.string (mk l),.string ⟨#[]⟩,.bool false]) (by simp[results,Tryz.results71,go_sem]) rfl ⟨rfl,Below.refl _ _⟩
 ·have hi:idx 32 l=((wrd l).length:Int):=idx_yes hh;have hlt:(wrd l).length<(mk l).size:=by rw[H.out];exact take_lt hh
  have hle:(mk l).size<=140737488355328:=by rw[H.out];exact hs
  have HC:Hid (mk (wrd l)=(mk l).extract 0 (wrd l).length/\mk (beh l)=(mk l).extract ((wrd l).length+1) (mk l).size):=by
   refine⟨?_,?_⟩
   ·rw[mk_ext,List.drop_zero,Nat.sub_zero,wrd_take]
   ·rw[mk_ext,List.take_of_length_le (by rw[H.out,List.length_drop];omega)];rfl
  rw[HC.out.1,HC.out.2];generalize (wrd l).length=n at *;go_enter Tryz.func71,Tryz.ntmps71;go_wp2_with (first | (go_at_call 98;refine(index32_any _ _).mono ?_;rintro e w' ⟨rfl,rfl⟩;rw[mk_data,hi]));go_region
  all_goals go_wp2
  exact bodyPost_ret (v:=.tuple #[.string ((mk l).extract 0 n),.string ((mk l).extract (n+1) (mk l).size),.bool true]) (by simp[results,Tryz.results71,go_sem]) rfl ⟨rfl,(Below.refl _ _).drew⟩
theorem cut32_any (l:Ln) (w:World) (hs:l.length<=140737488355328):Calls Tryz.prog 50 #[.string (mk l),.string ⟨#[32]⟩] w fun e w'=>e=.returned (.tuple #[.string (mk (wrd l)),.string (mk (beh l)),.bool (has 32 l)])/\Below w.heap.size w w':=by
 have HC:=cutL_any l w hs;generalize mk (wrd l)=a at *;generalize mk (beh l)=b at *;generalize has 32 l=q at *;go_enter Tryz.func50,Tryz.ntmps50;go_wp2_with (first | (go_at_call 71;refine HC.mono ?_;rintro e w' ⟨rfl,hb⟩));exact bodyPost_ret (v:=.tuple #[.string a,.string b,.bool q]) (by simp[results,Tryz.results50,go_sem]) rfl ⟨rfl,hb⟩
end Tre
namespace Tre
open Utf Rws Pln Flw
open Go.RowKit
set_option maxHeartbeats 4000000
def samePp (p q:Pp):Bool:=p.anc==q.anc && p.tag==q.tag
theorem samePp_eq {p q:Pp} (h:samePp p q=true):p=q:=by
 obtain⟨a,b⟩:=p;obtain⟨c,d⟩:=q;simp only[samePp,Bool.and_eq_true,beq_iff_eq]at h;rw[h.1,h.2]
def cpr:Nat->Pp->Ln->Pp × Ln
 | 0,p,l=>(p,gaps l)
 | n+1,p,l=>if samePp (wth p (wrd (gaps l))) p=true then (p,gaps l)else cpr n (wth p (wrd (gaps l))) (beh (gaps l))
def mu (p:Pp):Nat:=(if p.anc=[]then 1 else 0)+(if p.tag=0 then 1 else 0)
theorem name_ne {a:Ln} (h:isName a=true):a≠[]:=by rintro rfl;cases h
theorem mu_wth (p:Pp) (l:Ln) (h:samePp (wth p l) p=false):mu (wth p l)<mu p:=by
 obtain⟨a,t⟩:=p;unfold wth at h |-;by_cases h38:hd l=38
 ·rw[if_pos h38]at h |-;by_cases hn:a=[]/\isName (l.drop 1)=true
  ·rw[if_pos hn]at h |-;have:=name_ne hn.2;show (if l.drop 1=[]then 1 else 0)+(if t=0 then 1 else 0)<(if a=[]then 1 else 0)+(if t=0 then 1 else 0);rw[if_neg this,if_pos hn.1];omega
  ·rw[if_neg hn]at h;simp[samePp]at h
 ·rw[if_neg h38]at h |-;by_cases ht:t=0
  ·rw[if_pos ht]at h |-;have hk:tgw l≠0:=fun e=>by rw[e]at h;simp[samePp,ht]at h
   show (if a=[]then 1 else 0)+(if tgw l=0 then 1 else 0)<(if a=[]then 1 else 0)+(if t=0 then 1 else 0);rw[if_neg hk,if_pos ht];omega
  ·rw[if_neg ht]at h;simp[samePp]at h
theorem cpr_fuel:∀ (n:Nat) (p:Pp) (l:Ln),mu p<n->cpr n p l=cpr (mu p+1) p l
 | 0,p,l,h=>by omega
 | n+1,p,l,h=>by
  rw[cpr,cpr];cases hs:samePp (wth p (wrd (gaps l))) p
  ·have hm:=mu_wth p _ hs;rw[if_neg (by decide),if_neg (by decide),cpr_fuel n _ _ (by omega)];by_cases e:mu p=mu (wth p (wrd (gaps l)))+1
   ·rw[e]
   ·have h2:=cpr_fuel (mu p) (wth p (wrd (gaps l))) (beh (gaps l));rw[h2 (by omega)]
  ·rw[if_pos rfl,if_pos rfl]
def CP (p:Pp) (l:Ln):Pp × Ln:=cpr (mu p+1) p l
theorem CP_end {p:Pp} {l:Ln} (h:samePp (wth p (wrd (gaps l))) p=true):CP p l=(p,gaps l):=by unfold CP;rw[cpr,if_pos h]
theorem CP_step {p:Pp} {l:Ln} (h:samePp (wth p (wrd (gaps l))) p=false):CP p l=CP (wth p (wrd (gaps l))) (beh (gaps l)):=by
 unfold CP;rw[cpr,if_neg (by rw[h];decide)];exact cpr_fuel _ _ _ (mu_wth p _ h)
theorem eql_props (x y:ByteArray) (a b:Int) (w:World):(binOp .eql 49 (.agg #[.string x,.int .i64 a]) (.agg #[.string y,.int .i64 b])).run Tryz.prog w=.ok (.bool (x.toList==y.toList && a==b)) w:=by
 rw[run_eql_struct,run_equalIn_struct w 9999 49 _ _ (by kernel_rfl) (by kernel_rfl)];cases h1:x.toList==y.toList<;>cases h2:a==b<;>simp[go_sem,Program.fieldsOf,Tryz.underlying49,Tryz.underlying9,Tryz.underlying3,h1,h2]
def muW (K:Nat) (w:World):Nat:=(match w.cell? ⟨K,0,none⟩with | some (.string s)=>if s.size=0 then 1 else 0 | _=>0)+(match w.cell? ⟨K,1,none⟩with | some (.int _ t)=>if t=0 then 1 else 0 | _=>0)
theorem muW_is {K:Nat} {w:World} {q:Pp} (h:Bx w K #[.string (mk q.anc),.int .i64 q.tag] 49):muW K w=mu q:=by
 obtain⟨c0,c1⟩:=h.c2;unfold muW mu;rw[c0,c1];simp only[mk_size];cases q.anc<;>simp
theorem tgw_bd (l:Ln):0<=tgw l/\tgw l<=6:=by
 unfold tgw
 repeat' split
 all_goals decide
theorem wth_bd (p:Pp) (l:Ln) (h:0<=p.tag/\p.tag<=6):0<=(wth p l).tag/\(wth p l).tag<=6:=by
 unfold wth;split
 ·split
  ·exact h
  ·exact h
 ·split
  ·exact tgw_bd l
  ·exact h
theorem beh_le (l:Ln):(beh l).length<=l.length:=by unfold beh;rw[List.length_drop];omega
theorem cutProperties_any (l:Ln) (w:World) (hl:l.length<=140737488351232):Calls Tryz.prog 32 #[.string (mk l)] w fun e w'=>e=.returned (.tuple #[pV (CP ⟨[],0⟩ l).1,.string (mk (CP ⟨[],0⟩ l).2)])/\Below w.heap.size w w':=by
 have b1:=below_alloc w (.cells #[.string ⟨#[]⟩,.int .i64 0] 49);have s1:(w.alloc (.cells #[.string ⟨#[]⟩,.int .i64 0] 49)).heap.size=w.heap.size+1:=World.size_alloc _ _;have b2:=below_alloc (w.alloc (.cells #[.string ⟨#[]⟩,.int .i64 0] 49)) (.cells #[.string ⟨#[]⟩,.int .i64 0] 49);have n1:=(Bx.new w #[.string ⟨#[]⟩,.int .i64 0] 49).later b2;have n2:=Bx.new (w.alloc (.cells #[.string ⟨#[]⟩,.int .i64 0] 49)) #[.string ⟨#[]⟩,.int .i64 0] 49;rw[s1]at n2;have B0:=b1.trans (b2.mono b1.size);go_enter Tryz.func32,Tryz.ntmps32;go_wp2;generalize (w.alloc (.cells #[.string ⟨#[]⟩,.int .i64 0] 49)).alloc (.cells #[.string ⟨#[]⟩,.int .i64 0] 49)=W at n1 n2 B0 |-;obtain⟨K1,hK1⟩:∃ K1,K1=w.heap.size+1:=⟨_,rfl⟩;obtain⟨K0,hK0⟩:∃ K0,K0=w.heap.size:=⟨_,rfl⟩;rw[<-hK1]at n2 |-;rw[<-hK0]at n1 |-;have HN1:Hid (Bx W K0 #[.string ⟨#[]⟩,.int .i64 0] 49):=n1;have HN2:Hid (Bx W K1 #[.string ⟨#[]⟩,.int .i64 0] 49):=n2;have HB0:Hid (Below w.heap.size w W):=B0;have hne:K0≠K1:=by omega
 have hne':K1≠K0:=by omega
 have HK0:Hid (K0=w.heap.size):=hK0;have HK1:Hid (K1=w.heap.size+1):=hK1;clear n1 n2 B0 b1 b2 s1 hK0 hK1
 go_loopw [0] (fun ur wr=>∃ (q:Pp) (r:Ln),ur=.string (mk r)/\Hid (r.length<=l.length/\(0<=q.tag/\q.tag<=6)/\Bx wr K0 #[.string ⟨#[]⟩,.int .i64 0] 49/\Bx wr K1 #[.string (mk q.anc),.int .i64 q.tag] 49/\Below w.heap.size w wr/\CP ⟨[],0⟩ l=CP q r)) (fun _ wr=>muW K1 wr)
 case atStart=>exact⟨⟨[],0⟩,l,rfl,Nat.le_refl _,⟨by decide,by decide⟩,HN1.out,HN2.out,HB0.out,rfl⟩
 case round =>
  obtain⟨q,r,rfl,HR⟩:=hrel;have hrl:=HR.out.1;have hgl:=gaps_len r;have hwl:=wrd_le (gaps r);have HWB:Hid (Calls Tryz.prog 49 #[.string (mk r)] wr fun e w'=>e=.returned (.string (mk (gaps r)))/\wr=w'):=withoutBlanks_any r wr (by omega);have HCU:Hid (Calls Tryz.prog 50 #[.string (mk (gaps r)),.string ⟨#[32]⟩] wr fun e w'=>e=.returned (.tuple #[.string (mk (wrd (gaps r))),.string (mk (beh (gaps r))),.bool (has 32 (gaps r))])/\Hid (Below wr.heap.size wr w')):=cut32_any _ wr (by omega);have HWT:Hid (∀ w0,Calls Tryz.prog 51 #[.agg #[.string (mk q.anc),.int .i64 q.tag],.string (mk (wrd (gaps r)))] w0 fun e w'=>e=.returned (.agg #[.string (mk (wth q (wrd (gaps r))).anc),.int .i64 (wth q (wrd (gaps r))).tag])/\Hid (Below w0.heap.size w0 w')):=fun w0=>with_any q _ w0 (by omega) (by have:=HR.out.2.1;omega)
  have HEQ:Hid (((mk (wth q (wrd (gaps r))).anc).toList==(mk q.anc).toList && (wth q (wrd (gaps r))).tag==q.tag)=samePp (wth q (wrd (gaps r))) q):=by unfold samePp;rw[beq_mk];exact rfl
  have he:=eql_props (mk (wth q (wrd (gaps r))).anc) (mk q.anc) (wth q (wrd (gaps r))).tag q.tag;rw[HEQ.out]at he;have hbd:=wth_bd q (wrd (gaps r)) HR.out.2.1;have hbl:=beh_le (gaps r);have HM:Hid (muW K1 wr=mu q):=muW_is HR.out.2.2.2.1;cases hs:samePp (wth q (wrd (gaps r))) q
  ·rw[hs]at he;have HST:Hid (CP ⟨[],0⟩ l=CP (wth q (wrd (gaps r))) (beh (gaps r))/\mu (wth q (wrd (gaps r)))<mu q):=⟨HR.out.2.2.2.2.2.trans (CP_step hs),mu_wth q _ hs⟩;obtain⟨q',HQ'⟩:∃ q',Hid (wth q (wrd (gaps r))=q'):=⟨_,rfl⟩;rw[HQ'.out]at HST HWT he hbd;obtain⟨p0,p1⟩:=HR.out.2.2.2.1.c2;clear hs HEQ;go_wp2_with fail;refine HWB.out.mono ?_;rintro e w' ⟨rfl,rfl⟩;go_wp2_with fail;refine HCU.out.mono ?_;rintro e w2 ⟨rfl,H2⟩;have x2:=HR.out.2.2.2.1.later H2.out;obtain⟨y0,y1⟩:=x2.c2;clear x2;go_wp2_with fail;refine(HWT.out w2).mono ?_;rintro e w3 ⟨rfl,H3⟩
   have N4:Hid (∀ w4,w4=w3.alloc (.cells #[.string (mk q'.anc),.int .i64 q'.tag] 49)->Bx w4 K0 #[.string ⟨#[]⟩,.int .i64 0] 49/\Bx w4 K1 #[.string (mk q.anc),.int .i64 q.tag] 49/\Below w.heap.size w w4/\Bx w4 w3.heap.size #[.string (mk q'.anc),.int .i64 q'.tag] 49):=fun w4 e=>by
    subst e;have b23:=H2.out.trans (H3.out.mono H2.out.size);have b34:=below_alloc w3 (.cells #[.string (mk q'.anc),.int .i64 q'.tag] 49);have b:=b23.trans (b34.mono b23.size);exact⟨HR.out.2.2.1.later b,HR.out.2.2.2.1.later b,HR.out.2.2.2.2.1.trans (b.mono HR.out.2.2.2.2.1.size),Bx.new _ _ _⟩
   go_upto_region 5 with fail
   have N5:=N4.out _ rfl;clear N4;generalize w3.alloc (.cells #[.string (mk q'.anc),.int .i64 q'.tag] 49)=w4 at N5 |-;generalize w3.heap.size=K2 at *;obtain⟨x0,x1⟩:=N5.2.1.c2;obtain⟨m0,m1⟩:=N5.2.2.2.c2;obtain⟨t0,t1⟩:=N5.1.c2;have f0:=N5.2.1.fz 0;have f1:=N5.2.1.fz 1;have f2:=N5.1.fz 0;have f3:=N5.1.fz 1;clear y0 y1 p0 p1
   have HOUT:Hid (Bx ((w4.setCell ⟨K1,0,none⟩ (.string (mk q'.anc))).setCell ⟨K1,1,none⟩ (.int .i64 q'.tag)) K0 #[.string ⟨#[]⟩,.int .i64 0] 49/\Bx ((w4.setCell ⟨K1,0,none⟩ (.string (mk q'.anc))).setCell ⟨K1,1,none⟩ (.int .i64 q'.tag)) K1 #[.string (mk q'.anc),.int .i64 q'.tag] 49/\Below w.heap.size w ((w4.setCell ⟨K1,0,none⟩ (.string (mk q'.anc))).setCell ⟨K1,1,none⟩ (.int .i64 q'.tag))) :=
    ⟨(N5.1.other hne _ _).other hne _ _,(N5.2.1.set 0 (.string (mk q'.anc))).set 1 (.int .i64 q'.tag),(N5.2.2.1.setCell (by have:=HK1.out;show _<=K1;omega) _).setCell (by have:=HK1.out;show _<=K1;omega) _⟩
   have HREL:Hid (∀ W',W'=((w4.setCell ⟨K1,0,none⟩ (.string (mk q'.anc))).setCell ⟨K1,1,none⟩ (.int .i64 q'.tag))->(beh (gaps r)).length<=l.length/\(0<=q'.tag/\q'.tag<=6)/\Bx W' K0 #[.string ⟨#[]⟩,.int .i64 0] 49/\Bx W' K1 #[.string (mk q'.anc),.int .i64 q'.tag] 49/\Below w.heap.size w W'/\CP ⟨[],0⟩ l=CP q' (beh (gaps r))/\muW K1 W'<muW K1 wr):=fun W' e=>by
    subst e;exact⟨by omega,hbd,HOUT.out.1,HOUT.out.2.1,HOUT.out.2.2,HST.out.1,by rw[HM.out,muW_is HOUT.out.2.1];exact HST.out.2⟩
   clear N5 HR HST HM HOUT hbd;go_wp2;go_roundw
   case rel =>
    have h:=HREL.out _ rfl;exact⟨q',beh (gaps r),rfl,h.1,h.2.1,h.2.2.1,h.2.2.2.1,h.2.2.2.2.1,h.2.2.2.2.2.1⟩
   case measure=>exact(HREL.out _ rfl).2.2.2.2.2.2
  ·rw[hs]at he;have HST:Hid (CP ⟨[],0⟩ l=(q,gaps r)):=HR.out.2.2.2.2.2.trans (CP_end hs);obtain⟨q',HQ'⟩:∃ q',Hid (wth q (wrd (gaps r))=q'):=⟨_,rfl⟩;rw[HQ'.out]at HWT he hbd;obtain⟨p0,p1⟩:=HR.out.2.2.2.1.c2;clear hs HEQ;go_wp2_with fail;refine HWB.out.mono ?_;rintro e w' ⟨rfl,rfl⟩;go_wp2_with fail;refine HCU.out.mono ?_;rintro e w2 ⟨rfl,H2⟩;have x2:=HR.out.2.2.2.1.later H2.out;obtain⟨y0,y1⟩:=x2.c2;clear x2;go_wp2_with fail;refine(HWT.out w2).mono ?_;rintro e w3 ⟨rfl,H3⟩
   have N4:Hid (∀ w4,w4=w3.alloc (.cells #[.string (mk q'.anc),.int .i64 q'.tag] 49)->Bx w4 K0 #[.string ⟨#[]⟩,.int .i64 0] 49/\Bx w4 K1 #[.string (mk q.anc),.int .i64 q.tag] 49/\Below w.heap.size w w4/\Bx w4 w3.heap.size #[.string (mk q'.anc),.int .i64 q'.tag] 49):=fun w4 e=>by
    subst e;have b23:=H2.out.trans (H3.out.mono H2.out.size);have b34:=below_alloc w3 (.cells #[.string (mk q'.anc),.int .i64 q'.tag] 49);have b:=b23.trans (b34.mono b23.size);exact⟨HR.out.2.2.1.later b,HR.out.2.2.2.1.later b,HR.out.2.2.2.2.1.trans (b.mono HR.out.2.2.2.2.1.size),Bx.new _ _ _⟩
   go_upto_region 5 with fail
   have N5:=N4.out _ rfl;clear N4;generalize w3.alloc (.cells #[.string (mk q'.anc),.int .i64 q'.tag] 49)=w4 at N5 |-;generalize w3.heap.size=K2 at *;obtain⟨x0,x1⟩:=N5.2.1.c2;obtain⟨m0,m1⟩:=N5.2.2.2.c2;obtain⟨t0,t1⟩:=N5.1.c2;have f0:=N5.2.1.fz 0;have f1:=N5.2.1.fz 1;have f2:=N5.1.fz 0;have f3:=N5.1.fz 1;clear y0 y1 p0 p1
   have HOUT:Hid (∀ W',W'=((w4.setCell ⟨K0,0,none⟩ (.string (mk q.anc))).setCell ⟨K0,1,none⟩ (.int .i64 q.tag))->Bx W' K0 #[.string (mk q.anc),.int .i64 q.tag] 49/\Below w.heap.size w W'):=fun W' e=>by
    subst e;exact⟨(N5.1.set 0 (.string (mk q.anc))).set 1 (.int .i64 q.tag),(N5.2.2.1.setCell (by have:=HK0.out;show _<=K0;omega) _).setCell (by have:=HK0.out;show _<=K0;omega) _⟩
   clear N5 HR HM hbd;go_wp2;have h:=HOUT.out _ rfl;clear HOUT;generalize (w4.setCell ⟨K0,0,none⟩ (.string (mk q.anc))).setCell ⟨K0,1,none⟩ (.int .i64 q.tag)=W5 at h |-;obtain⟨j0,j1⟩:=h.1.c2;refine bodyPost_ret (v:=.tuple #[.agg #[.string (mk q.anc),.int .i64 q.tag],.string (mk (gaps r))]) (by simp[results,Tryz.results32,go_sem,j0,j1]) rfl ⟨?_,h.2⟩;rw[HST.out]
end Tre
namespace Flw
open Utf Rws Pln
open Go.RowKit
set_option maxHeartbeats 4000000
variable {b p dp:Nat} {s:Ln} {w w1 w2:World}
structure S2 (w0 w:World) (b K0 K1:Nat):Prop where
 k0:Bx w K0 zT 24
 k1:Bx w K1 zF 33
 fr:Fr b w0 w
 hb:b<w0.heap.size
 h0:w0.heap.size<=K0
 h1:K0<K1
variable {K0 K1:Nat} {w0:World}
theorem S2.step (h:S2 w0 w b K0 K1) (hf:Fr b w w1):S2 w0 w1 b K0 K1:=by
 have:=h.hb;have:=h.h0;have:=h.h1;exact⟨h.k0.fr hf (by omega),h.k1.fr hf (by omega),h.fr.trans hf,h.hb,h.h0,h.h1⟩
theorem S2.lt (h:S2 w0 w b K0 K1):b<w.heap.size:=by have:=h.hb;have:=h.fr.size;omega
theorem S2.later (h:S2 w0 w b K0 K1) (hb:Below w.heap.size w w1):S2 w0 w1 b K0 K1:=h.step (Fr.of hb h.lt)
theorem S2.drew (h:S2 w0 w b K0 K1) (n:Nat):S2 w0 (w.drewN n) b K0 K1:=h.later (below_drewN (Below.refl _ _) n)
theorem S2.new (w:World) (hb:b<w.heap.size):S2 w ((w.alloc (.cells zT 24)).alloc (.cells zF 33)) b w.heap.size (w.heap.size+1):=by
 have b1:=below_alloc w (.cells zT 24);have b2:=below_alloc (w.alloc (.cells zT 24)) (.cells zF 33);have e1:(w.alloc (.cells zT 24)).heap.size=w.heap.size+1:=by simp
 have x1:=Bx.new (w.alloc (.cells zT 24)) zF 33;rw[e1]at x1;exact⟨(Bx.new w zT 24).later b2,x1,Fr.of (b1.trans (b2.mono (by rw[e1];omega))) hb,hb,Nat.le_refl _,by omega⟩
def S2C (w:World) (K0 K1:Nat):Prop:=w.cell? ⟨K0,0,none⟩=some (.int .i64 0)/\w.cell? ⟨K0,1,none⟩=some (.string ⟨#[]⟩)/\w.cell? ⟨K0,2,none⟩=some (.string ⟨#[]⟩)/\w.cell? ⟨K0,3,none⟩=some (.slice none 0 0)/\w.cell? ⟨K1,0,none⟩=some (.int .i64 0)/\w.cell? ⟨K1,1,none⟩=some (.int .i64 0) /\
 w.frozen? ⟨K0,0,none⟩=false/\w.frozen? ⟨K0,1,none⟩=false/\w.frozen? ⟨K0,2,none⟩=false/\w.frozen? ⟨K0,3,none⟩=false/\w.frozen? ⟨K1,0,none⟩=false/\w.frozen? ⟨K1,1,none⟩=false
theorem S2.c (h:S2 w0 w b K0 K1):S2C w K0 K1:=⟨h.k0.cell 0,h.k0.cell 1,h.k0.cell 2,h.k0.cell 3,h.k1.cell 0,h.k1.cell 1,h.k0.fz 0,h.k0.fz 1,h.k0.fz 2,h.k0.fz 3,h.k1.fz 0,h.k1.fz 1⟩
theorem Rd.drew1 (h:Rd w b s p dp):Rd w.drew b s p dp:=h
theorem Rd.two (h:Rd w b s p dp):Rd ((w.alloc (.cells zT 24)).alloc (.cells zF 33)) b s p dp:=(h.later (below_alloc _ _)).later (below_alloc _ _)
def fill6 (w:World) (K0 K1:Nat) (x0 x1 x2 x3 y0 y1:Value):World:=((fill4 w K0 x0 x1 x2 x3).setCell ⟨K1,0,none⟩ y0).setCell ⟨K1,1,none⟩ y1
theorem S2.out (h:S2 w0 w b K0 K1) (x0 x1 x2 x3 y0 y1:Value):Fr b w0 (fill6 w K0 K1 x0 x1 x2 x3 y0 y1)/\Bx (fill6 w K0 K1 x0 x1 x2 x3 y0 y1) K0 #[x0,x1,x2,x3] 24/\Bx (fill6 w K0 K1 x0 x1 x2 x3 y0 y1) K1 #[y0,y1] 33:=by
 have:=h.hb;have:=h.h0;have:=h.h1;exact⟨((h.fr.fill4 h.h0 (by omega) x0 x1 x2 x3).new (by omega) (by omega) _ _).new (by omega) (by omega) _ _,((h.k0.fill4 rfl x0 x1 x2 x3).other (by omega) _ _).other (by omega) _ _,((h.k1.fill4o (by omega) x0 x1 x2 x3).set 0 y0).set 1 y1⟩
theorem S2.rd (h:S2 w0 w b K0 K1) (hr:Rd w b s p dp) (x0 x1 x2 x3 y0 y1:Value):Rd (fill6 w K0 K1 x0 x1 x2 x3 y0 y1) b s p dp:=by
 have:=h.hb;have:=h.h0;have:=h.h1;exact((hr.fill4 (by omega) x0 x1 x2 x3).other (by omega) _ _).other (by omega) _ _
def SclRes (b:Nat) (s:Ln) (dp:Nat) (w:World) (r:Ot ((Tr × Ln) × Ln)) (e:Ending) (w':World):Prop:=match r with
 | .ok x=>e=.returned (.tuple #[lfV x.1.1.kind x.1.1.text [],.string (mk x.1.2),f0])/\(∃ q,q<=s.length/\x.2=s.drop q/\Rd w' b s q dp)/\Fr b w w'
 | .error f=>∃ k:Int,(k=1\/k=4)/\e=.returned (.tuple #[lfV k [] [],.string (mk []),fv s.length f])/\Fr b w w'
theorem scalar_any (f:Bool) (h:Rd w b s p dp) (hp:p<=s.length) (hs:s.length<=65536) (hT:TbB b w) :
  Calls Tryz.prog 171 #[.pointer (some ⟨b,0,none⟩),.bool f] w fun e w'=>SclRes b s dp w (lscl f (s.drop p)) e w':=by
 have hS:=S2.new w h.lt;have hr:=h.two;have hT0:=hT.fr hS.fr;obtain⟨W,hW⟩:∃ W,(w.alloc (.cells zT 24)).alloc (.cells zF 33)=W:=⟨_,rfl⟩;rw[hW]at hS hr hT0
 have HSE:Hid (∀ (c:UInt8) k,c=39\/c=34->Calls Tryz.prog 163 #[.pointer (some ⟨b,0,none⟩),.string ⟨#[c]⟩] (W.drewN k) fun e w'=>e=.returned (.bool (decide (hd (gaps (s.drop p))=c)))/\∃ n,w'=(W.drewN k).drewN n):=fun c k hc=>by
  have:=sees_any [c] (hr.drew k) hp hs (by simp);rw[see_hd s p (by rcases hc with rfl | rfl<;>decide)]at this;exact this
 go_enter Tryz.func171,Tryz.ntmps171;go_wp2_with fail;change Calls _ _ _ ((w.alloc (.cells zT 24)).alloc (.cells zF 33)) _;rw[hW];generalize hK1:w.heap.size+1=K1 at hS |-;generalize hK0:w.heap.size=K0 at hS |-;have HQU:Hid (∀ k,Calls Tryz.prog 189 #[.pointer (some ⟨b,0,none⟩)] (W.drewN k) fun e w'=>NamRes b s dp (W.drewN k) (quoted (gaps (s.drop p))) e w'):=fun k=>quoted_any (hr.drew k) hp hs (hT0.later (below_drewN (Below.refl _ _) k))
 have HUN:Hid (∀ k,Calls Tryz.prog 190 #[.pointer (some ⟨b,0,none⟩),.bool f] (W.drewN k) fun e w'=>NamRes b s dp (W.drewN k) (lplain f (s.drop p)) e w'):=fun k=>unquoted_any f (hr.drew k) hp hs
 have HPL:Hid (∀ x,lplain f (s.drop p)=.ok x->x.1.length<=(gaps (s.drop p)).length):=fun x hx=>by
  unfold lplain at hx;by_cases c1:cutT (gaps (s.drop p)) f=[]
  ·rw[if_pos c1]at hx;cases hx;exact Nat.zero_le _
  ·rw[if_neg c1]at hx;obtain⟨_,hx⟩:=ite_inv hx;cases hx;have h2:=cutT_len (gaps (s.drop p)) f;have h3:=fin_le (gaps (s.drop p)) f;show (cutT (gaps (s.drop p)) f).length<=_;omega
 clear hK0 hK1 hW h hT;by_cases c0:hd (gaps (s.drop p))=39\/hd (gaps (s.drop p))=34
 ·have HL:Hid (lscl f (s.drop p)=bnd (quoted (gaps (s.drop p))) fun x=>.ok ((⟨4,x.1,[],[]⟩,x.1),x.2)):=by unfold lscl;rw[if_pos c0];exact rfl
  refine(HSE.out 39 0 (.inl rfl)).mono ?_;rintro e w1 ⟨rfl,n1,rfl⟩;by_cases c1:hd (gaps (s.drop p))=39
  case' pos=>rw[decide_eq_true c1]
  case' neg =>
   have c2:=c0.resolve_left c1;rw[decide_eq_false c1];go_wp2_with fail;refine(HSE.out 34 _ (.inr rfl)).mono ?_;rintro e w1 ⟨rfl,n2,rfl⟩;rw[decide_eq_true c2,World.drewN_drewN];generalize n1+n2=n1
  all_goals
   go_wp2_with fail;refine(HQU.out _).mono ?_;intro e w3 hres;generalize hq:quoted (gaps (s.drop p))=r at hres HL
   cases r with
   | error F =>
    obtain⟨rfl,hf3⟩:=hres;unfold fv;have HS3:Hid (S2 w w3 b K0 K1):=(hS.drew _).step hf3;clear hf3;go_wp2;have hKF0:K0<w3.heap.size:=HS3.out.k0.lt;have hKF1:K1<w3.heap.size:=HS3.out.k1.lt;have hkf1:w3.heap.size≠K0:=by omega
    have hkf2:K0≠w3.heap.size:=by omega
    have hkf3:w3.heap.size≠K1:=by omega
    have hkf4:K1≠w3.heap.size:=by omega
    obtain⟨w4,hw4⟩:∃ w4,w3.alloc (.cells #[.int .i64 (F.1:Int),.int .i64 ((s.length-F.2:Nat):Int)] 33)=w4:=⟨_,rfl⟩;have hbw4:Below w3.heap.size w3 w4:=by rw[<-hw4];exact below_alloc _ _
    have hxw4:Bx w4 w3.heap.size #[.int .i64 (F.1:Int),.int .i64 ((s.length-F.2:Nat):Int)] 33:=by rw[<-hw4];exact Bx.new _ _ _
    obtain⟨f0_w4,f1_w4⟩:=hxw4.c2;rw[hw4];clear hw4;have HS4:Hid (S2 w w4 b K0 K1):=HS3.out.later hbw4;clear HS3 hbw4 hxw4;obtain⟨X0,X1,X2,X3,Y0,Y1,Z0,Z1,Z2,Z3,V0,V1⟩:=HS4.out.c;have hd10:K1≠K0:=by have:=HS4.out.h1;omega
    have hd01:K0≠K1:=by omega
    go_region
    all_goals
     go_wp2;have hO:=HS4.out.out (.int .i64 4) (.string (mk [])) (.string ⟨#[]⟩) (.slice none 0 0) (.int .i64 (F.1:Int)) (.int .i64 ((s.length-F.2:Nat):Int));change bodyPost _ _ _ _ _ (fill6 w4 K0 K1 (.int .i64 4) (.string (mk [])) (.string ⟨#[]⟩) (.slice none 0 0) (.int .i64 (F.1:Int)) (.int .i64 ((s.length-F.2:Nat):Int))).drew;generalize fill6 w4 K0 K1 (.int .i64 4) (.string (mk [])) (.string ⟨#[]⟩) (.slice none 0 0) (.int .i64 (F.1:Int)) (.int .i64 ((s.length-F.2:Nat):Int))=WF at hO |-;obtain⟨o2,o3,o4⟩:=hO;have j0:WF.drew.cell? ⟨K0,0,none⟩=_:=o3.cell 0;have j1:WF.drew.cell? ⟨K0,1,none⟩=_:=o3.cell 1;have j2:WF.drew.cell? ⟨K0,2,none⟩=_:=o3.cell 2;have j3:WF.drew.cell? ⟨K0,3,none⟩=_:=o3.cell 3;have j4:WF.drew.cell? ⟨K1,0,none⟩=_:=o4.cell 0;have j5:WF.drew.cell? ⟨K1,1,none⟩=_:=o4.cell 1;replace o2:=o2.drew;refine bodyPost_ret (v:=.tuple #[.agg #[.int .i64 4,.string (mk []),.string ⟨#[]⟩,.slice none 0 0],.string (mk []),.agg #[.int .i64 (F.1:Int),.int .i64 ((s.length-F.2:Nat):Int)]]) (by simp[results,Tryz.results171,go_sem,j0,j1,j2,j3,j4,j5]) rfl ?_;rw[HL.out];exact⟨4,.inr rfl,rfl,o2⟩
   | ok x =>
    obtain⟨rfl,⟨q,hq2,hx2,hr3⟩,hf3⟩:=hres;unfold f0;have HS3:Hid (S2 w w3 b K0 K1):=(hS.drew _).step hf3;have HX2:Hid (x.2=s.drop q):=hx2;have HR3:Hid (Rd w3 b s q dp):=hr3;clear hf3 hx2 hr3;go_wp2;have hKF0:K0<w3.heap.size:=HS3.out.k0.lt;have hKF1:K1<w3.heap.size:=HS3.out.k1.lt;have hkf1:w3.heap.size≠K0:=by omega
    have hkf2:K0≠w3.heap.size:=by omega
    have hkf3:w3.heap.size≠K1:=by omega
    have hkf4:K1≠w3.heap.size:=by omega
    obtain⟨w4,hw4⟩:∃ w4,w3.alloc (.cells #[.int .i64 0,.int .i64 0] 33)=w4:=⟨_,rfl⟩;have hbw4:Below w3.heap.size w3 w4:=by rw[<-hw4];exact below_alloc _ _
    have hxw4:Bx w4 w3.heap.size #[.int .i64 0,.int .i64 0] 33:=by rw[<-hw4];exact Bx.new _ _ _
    obtain⟨f0_w4,f1_w4⟩:=hxw4.c2;rw[hw4];clear hw4;have HS4:Hid (S2 w w4 b K0 K1):=HS3.out.later hbw4;have HR4:Hid (Rd w4 b s q dp):=HR3.out.later hbw4;clear HS3 hbw4 hxw4 HR3;obtain⟨X0,X1,X2,X3,Y0,Y1,Z0,Z1,Z2,Z3,V0,V1⟩:=HS4.out.c;have hd10:K1≠K0:=by have:=HS4.out.h1;omega
    have hd01:K0≠K1:=by omega
    go_region
    all_goals
     go_wp2;have hO:=HS4.out.out (.int .i64 4) (.string (mk x.1)) (.string ⟨#[]⟩) (.slice none 0 0) (.int .i64 0) (.int .i64 0);have hrd:=HS4.out.rd HR4.out (.int .i64 4) (.string (mk x.1)) (.string ⟨#[]⟩) (.slice none 0 0) (.int .i64 0) (.int .i64 0);change bodyPost _ _ _ _ _ (fill6 w4 K0 K1 (.int .i64 4) (.string (mk x.1)) (.string ⟨#[]⟩) (.slice none 0 0) (.int .i64 0) (.int .i64 0)).drew;generalize fill6 w4 K0 K1 (.int .i64 4) (.string (mk x.1)) (.string ⟨#[]⟩) (.slice none 0 0) (.int .i64 0) (.int .i64 0)=WF at hO hrd |-;obtain⟨o2,o3,o4⟩:=hO;have j0:WF.drew.cell? ⟨K0,0,none⟩=_:=o3.cell 0;have j1:WF.drew.cell? ⟨K0,1,none⟩=_:=o3.cell 1;have j2:WF.drew.cell? ⟨K0,2,none⟩=_:=o3.cell 2;have j3:WF.drew.cell? ⟨K0,3,none⟩=_:=o3.cell 3;have j4:WF.drew.cell? ⟨K1,0,none⟩=_:=o4.cell 0;have j5:WF.drew.cell? ⟨K1,1,none⟩=_:=o4.cell 1;replace hrd:=hrd.drew1;replace o2:=o2.drew;refine bodyPost_ret (v:=.tuple #[.agg #[.int .i64 4,.string (mk x.1),.string ⟨#[]⟩,.slice none 0 0],.string (mk x.1),.agg #[.int .i64 0,.int .i64 0]]) (by simp[results,Tryz.results171,go_sem,j0,j1,j2,j3,j4,j5]) rfl ?_;rw[HL.out];exact⟨rfl,⟨q,hq2,HX2.out,hrd⟩,o2⟩
 ·have c1: ¬hd (gaps (s.drop p))=39:=fun h=>c0 (.inl h)
  have c2: ¬hd (gaps (s.drop p))=34:=fun h=>c0 (.inr h)
  have HL:Hid (lscl f (s.drop p)=bnd (lplain f (s.drop p)) fun x=>.ok ((leaf (knd x.1) x.1 [],x.1),x.2)):=by unfold lscl;rw[if_neg (fun h=>h.elim c1 c2)];exact rfl
  refine(HSE.out 39 0 (.inl rfl)).mono ?_;rintro e w1 ⟨rfl,n1,rfl⟩;rw[decide_eq_false c1];go_wp2_with fail;refine(HSE.out 34 _ (.inr rfl)).mono ?_;rintro e w1 ⟨rfl,n2,rfl⟩;rw[decide_eq_false c2,World.drewN_drewN];generalize n1+n2=n1;go_wp2_with fail;refine(HUN.out _).mono ?_;intro e w3 hres;generalize hq:lplain f (s.drop p)=r at hres HL
  cases r with
  | error F =>
   obtain⟨rfl,hf3⟩:=hres;unfold fv;have HS3:Hid (S2 w w3 b K0 K1):=(hS.drew _).step hf3;have HTB:Hid (TbB b w3):=(hT0.later (below_drewN (Below.refl _ _) _)).fr hf3;clear hf3;go_wp2;have hKF0:K0<w3.heap.size:=HS3.out.k0.lt;have hKF1:K1<w3.heap.size:=HS3.out.k1.lt;have hkf1:w3.heap.size≠K0:=by omega
   have hkf2:K0≠w3.heap.size:=by omega
   have hkf3:w3.heap.size≠K1:=by omega
   have hkf4:K1≠w3.heap.size:=by omega
   obtain⟨w4,hw4⟩:∃ w4,w3.alloc (.cells #[.int .i64 (F.1:Int),.int .i64 ((s.length-F.2:Nat):Int)] 33)=w4:=⟨_,rfl⟩;have hbw4:Below w3.heap.size w3 w4:=by rw[<-hw4];exact below_alloc _ _
   have hxw4:Bx w4 w3.heap.size #[.int .i64 (F.1:Int),.int .i64 ((s.length-F.2:Nat):Int)] 33:=by rw[<-hw4];exact Bx.new _ _ _
   obtain⟨f0_w4,f1_w4⟩:=hxw4.c2;rw[hw4];clear hw4
   have HPT:Hid (∀ n,Calls Tryz.prog 191 #[.string (mk [])] (w4.drewN n) fun e w'=>e=.returned (.agg #[.int .i64 1,.string ⟨#[]⟩,.string ⟨#[]⟩,.slice none 0 0])/\w'.cell? ⟨w3.heap.size,0,none⟩=some (.int .i64 (F.1:Int))/\w'.cell? ⟨w3.heap.size,1,none⟩=some (.int .i64 ((s.length-F.2:Nat):Int))/\S2C w' K0 K1/\Hid (S2 w w' b K0 K1)):=fun n =>
    (plainTree_any [] (by simp) ((HTB.out.later hbw4).later (below_drewN (Below.refl _ _) n)).tb).mono (fun e w' h=>⟨h.1,((hxw4.drew n).later h.2).cell 0,((hxw4.drew n).later h.2).cell 1,(((HS3.out.later hbw4).drew n).later h.2).c,((HS3.out.later hbw4).drew n).later h.2⟩)
   have hd10:K1≠K0:=by have:=HS3.out.h1;omega
   have hd01:K0≠K1:=by omega
   clear HS3 hbw4 hxw4;go_region_with (go_at_call 191;(first | refine(HPT.out 0).mono ?_ | refine(HPT.out 1).mono ?_ | refine(HPT.out 2).mono ?_);rintro e w5 ⟨rfl,i0,i1,⟨X0,X1,X2,X3,Y0,Y1,Z0,Z1,Z2,Z3,V0,V1⟩,HS5⟩)
   all_goals
    go_wp2;have hO:=HS5.out.out (.int .i64 1) (.string ⟨#[]⟩) (.string ⟨#[]⟩) (.slice none 0 0) (.int .i64 (F.1:Int)) (.int .i64 ((s.length-F.2:Nat):Int));change bodyPost _ _ _ _ _ (fill6 w5 K0 K1 (.int .i64 1) (.string ⟨#[]⟩) (.string ⟨#[]⟩) (.slice none 0 0) (.int .i64 (F.1:Int)) (.int .i64 ((s.length-F.2:Nat):Int)));generalize fill6 w5 K0 K1 (.int .i64 1) (.string ⟨#[]⟩) (.string ⟨#[]⟩) (.slice none 0 0) (.int .i64 (F.1:Int)) (.int .i64 ((s.length-F.2:Nat):Int))=WF at hO |-;obtain⟨o2,o3,o4⟩:=hO;have j0:WF.cell? ⟨K0,0,none⟩=_:=o3.cell 0;have j1:WF.cell? ⟨K0,1,none⟩=_:=o3.cell 1;have j2:WF.cell? ⟨K0,2,none⟩=_:=o3.cell 2;have j3:WF.cell? ⟨K0,3,none⟩=_:=o3.cell 3;have j4:WF.cell? ⟨K1,0,none⟩=_:=o4.cell 0;have j5:WF.cell? ⟨K1,1,none⟩=_:=o4.cell 1;refine bodyPost_ret (v:=.tuple #[.agg #[.int .i64 1,.string ⟨#[]⟩,.string ⟨#[]⟩,.slice none 0 0],.string (mk []),.agg #[.int .i64 (F.1:Int),.int .i64 ((s.length-F.2:Nat):Int)]]) (by simp[results,Tryz.results171,go_sem,j0,j1,j2,j3,j4,j5]) rfl ?_;rw[HL.out];exact⟨1,.inl rfl,rfl,o2⟩
  | ok x =>
   obtain⟨rfl,⟨q,hq2,hx2,hr3⟩,hf3⟩:=hres;unfold f0;have HS3:Hid (S2 w w3 b K0 K1):=(hS.drew _).step hf3;have HTB:Hid (TbB b w3):=(hT0.later (below_drewN (Below.refl _ _) _)).fr hf3;have HX2:Hid (x.2=s.drop q):=hx2;have HR3:Hid (Rd w3 b s q dp):=hr3
   have hxl:x.1.length<=65536:=by
    have h1:=HPL.out x hq;have h2:=gaps_nx s hp;omega
   clear hf3 hx2 hr3;go_wp2;have hKF0:K0<w3.heap.size:=HS3.out.k0.lt;have hKF1:K1<w3.heap.size:=HS3.out.k1.lt;have hkf1:w3.heap.size≠K0:=by omega
   have hkf2:K0≠w3.heap.size:=by omega
   have hkf3:w3.heap.size≠K1:=by omega
   have hkf4:K1≠w3.heap.size:=by omega
   obtain⟨w4,hw4⟩:∃ w4,w3.alloc (.cells #[.int .i64 0,.int .i64 0] 33)=w4:=⟨_,rfl⟩;have hbw4:Below w3.heap.size w3 w4:=by rw[<-hw4];exact below_alloc _ _
   have hxw4:Bx w4 w3.heap.size #[.int .i64 0,.int .i64 0] 33:=by rw[<-hw4];exact Bx.new _ _ _
   obtain⟨f0_w4,f1_w4⟩:=hxw4.c2;rw[hw4];clear hw4
   have HPT:Hid (∀ n,Calls Tryz.prog 191 #[.string (mk x.1)] (w4.drewN n) fun e w'=>e=.returned (.agg #[.int .i64 (knd x.1),.string (mk (if knd x.1=1 then []else x.1)),.string (mk []),.slice none 0 0])/\w'.cell? ⟨w3.heap.size,0,none⟩=some (.int .i64 0)/\w'.cell? ⟨w3.heap.size,1,none⟩=some (.int .i64 0)/\S2C w' K0 K1/\Hid (S2 w w' b K0 K1)/\Hid (Rd w' b s q dp)):=fun n =>
    (plainTree_any x.1 hxl ((HTB.out.later hbw4).later (below_drewN (Below.refl _ _) n)).tb).mono (fun e w' h=>⟨h.1,((hxw4.drew n).later h.2).cell 0,((hxw4.drew n).later h.2).cell 1,(((HS3.out.later hbw4).drew n).later h.2).c,((HS3.out.later hbw4).drew n).later h.2,((HR3.out.later hbw4).drew n).later h.2⟩)
   have HLF:Hid (leaf (knd x.1) x.1 []=⟨knd x.1,if knd x.1=1 then []else x.1,[],[]⟩):=rfl;generalize (if knd x.1=1 then []else x.1)=tx at *;generalize hkx:knd x.1=kx at HPT HLF;have HKX:Hid (knd x.1=kx):=hkx;clear hkx;have hd10:K1≠K0:=by have:=HS3.out.h1;omega
   have hd01:K0≠K1:=by omega
   clear HS3 hbw4 hxw4 HR3;go_region_with (go_at_call 191;(first | refine(HPT.out 0).mono ?_ | refine(HPT.out 1).mono ?_ | refine(HPT.out 2).mono ?_);rintro e w5 ⟨rfl,i0,i1,⟨X0,X1,X2,X3,Y0,Y1,Z0,Z1,Z2,Z3,V0,V1⟩,HS5,HR5⟩)
   all_goals
    go_wp2;have hO:=HS5.out.out (.int .i64 kx) (.string (mk tx)) (.string (mk [])) (.slice none 0 0) (.int .i64 0) (.int .i64 0);have hrd:=HS5.out.rd HR5.out (.int .i64 kx) (.string (mk tx)) (.string (mk [])) (.slice none 0 0) (.int .i64 0) (.int .i64 0);change bodyPost _ _ _ _ _ (fill6 w5 K0 K1 (.int .i64 kx) (.string (mk tx)) (.string (mk [])) (.slice none 0 0) (.int .i64 0) (.int .i64 0));generalize fill6 w5 K0 K1 (.int .i64 kx) (.string (mk tx)) (.string (mk [])) (.slice none 0 0) (.int .i64 0) (.int .i64 0)=WF at hO hrd |-;obtain⟨o2,o3,o4⟩:=hO;have j0:WF.cell? ⟨K0,0,none⟩=_:=o3.cell 0;have j1:WF.cell? ⟨K0,1,none⟩=_:=o3.cell 1;have j2:WF.cell? ⟨K0,2,none⟩=_:=o3.cell 2;have j3:WF.cell? ⟨K0,3,none⟩=_:=o3.cell 3;have j4:WF.cell? ⟨K1,0,none⟩=_:=o4.cell 0;have j5:WF.cell? ⟨K1,1,none⟩=_:=o4.cell 1;refine bodyPost_ret (v:=.tuple #[.agg #[.int .i64 kx,.string (mk tx),.string (mk []),.slice none 0 0],.string (mk x.1),.agg #[.int .i64 0,.int .i64 0]]) (by simp[results,Tryz.results171,go_sem,j0,j1,j2,j3,j4,j5]) rfl ?_;rw[HL.out,bnd_ok];rw[HKX.out,HLF.out];exact⟨rfl,⟨q,hq2,HX2.out,hrd⟩,o2⟩
end Flw
end Go.Proofs.YtidhpmcmbooaoaaGreatDoor
