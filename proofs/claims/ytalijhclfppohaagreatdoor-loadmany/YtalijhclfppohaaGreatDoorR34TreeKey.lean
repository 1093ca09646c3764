/- . -/
import Derived.Test.YtalijhclfppohaaGreatDoorR04TreeLeaf
import Derived.Test.YtalijhclfppohaaGreatDoorR11FlowScal
import Derived.Test.YtalijhclfppohaaGreatDoorR33TreeMean
import Derived.Test.YtalijhclfppohaaGreatDoorR12FlowOn
import Derived.Test.YtalijhclfppohaaGreatDoorR02FlowModel2
import Derived.Test.YtalijhclfppohaaGreatDoorR24FlowBrk
set_option linter.unusedSimpArgs false
set_option linter.unusedVariables false
set_option maxRecDepth 100000
namespace Go.Proofs.YtalijhclfppohaaGreatDoor
namespace Tre
open Utf Rws Pln Flw
open Go.RowKit
set_option maxHeartbeats 4000000
variable {w:World}
theorem plainKey_any (l:Ln) (hl:l.length<=140737488351232) (hT:Tb w) :
  Calls Tryz.prog 129 #[.string (mk l)] w fun e w'=>e=.returned (lfV (knd l) (if knd l=1 then []else l) [])/\Below w.heap.size w w':=by
 have hb0:=below_alloc w (.cells zT 35)
 have HR:Hid (Calls Tryz.prog 120 #[.string (mk l)] (w.alloc (.cells zT 35)) fun e w'=>e=.returned (.int .i64 (knd l))/\Bx w' w.heap.size zT 35/\Hid (Below w.heap.size w w')) :=
  (resolve_any l _ (by omega) (hT.later hb0).1).mono (fun e w' h=>⟨h.1,(Bx.new w zT 35).later h.2,hb0.trans (h.2.mono (by simp))⟩)
 have hk:=knd_bd l;generalize knd l=k at *;clear hT hb0;obtain⟨W,hW⟩:∃ W,w.alloc (.cells zT 35)=W:=⟨_,rfl⟩;rw[hW]at HR;have hW':w.alloc (.cells #[.int .i64 0,.string ⟨#[]⟩,.string ⟨#[]⟩,.slice none 0 0] 35)=W:=hW;clear hW;by_cases e1:k=1
 ·subst e1;go_enter Tryz.func129,Tryz.ntmps129;go_wp2_with fail;refine HR.out.mono ?_;rintro e w3 ⟨rfl,hx,hb⟩;have HF:=hx.fill4 rfl (.int .i64 1) (.string ⟨#[]⟩) (.string ⟨#[]⟩) (.slice none 0 0);have HBF:Hid (Below w.heap.size w (fill4 w3 w.heap.size (.int .i64 1) (.string ⟨#[]⟩) (.string ⟨#[]⟩) (.slice none 0 0))):=below_fill4 hb.out (Nat.le_refl _) _ _ _ _;have c0:=hx.cell 0;have c1:=hx.cell 1;have c2:=hx.cell 2;have c3:=hx.cell 3;have z0:=hx.fz 0;have z1:=hx.fz 1;have z2:=hx.fz 2;have z3:=hx.fz 3;simp only[zT]at c0 c1 c2 c3;clear hx;go_wp2;change bodyPost _ _ _ _ _ (fill4 w3 w.heap.size (.int .i64 1) (.string ⟨#[]⟩) (.string ⟨#[]⟩) (.slice none 0 0));generalize fill4 w3 w.heap.size (.int .i64 1) (.string ⟨#[]⟩) (.string ⟨#[]⟩) (.slice none 0 0)=WF at HF HBF |-;have j0:=HF.cell 0;have j1:=HF.cell 1;have j2:=HF.cell 2;have j3:=HF.cell 3;refine bodyPost_ret (v:=.agg #[.int .i64 1,.string ⟨#[]⟩,.string ⟨#[]⟩,.slice none 0 0]) (by simp[results,Tryz.results129,go_sem,j0,j1,j2,j3]) rfl ?_;exact⟨rfl,HBF.out⟩
 ·have hke:(k==1)=false:=by simpa using e1
  go_enter Tryz.func129,Tryz.ntmps129;go_wp2_with fail;refine HR.out.mono ?_;rintro e w3 ⟨rfl,hx,hb⟩;have HF:=hx.fill4 rfl (.int .i64 k) (.string (mk l)) (.string ⟨#[]⟩) (.slice none 0 0);have HBF:Hid (Below w.heap.size w (fill4 w3 w.heap.size (.int .i64 k) (.string (mk l)) (.string ⟨#[]⟩) (.slice none 0 0))):=below_fill4 hb.out (Nat.le_refl _) _ _ _ _;have c0:=hx.cell 0;have c1:=hx.cell 1;have c2:=hx.cell 2;have c3:=hx.cell 3;have z0:=hx.fz 0;have z1:=hx.fz 1;have z2:=hx.fz 2;have z3:=hx.fz 3;simp only[zT]at c0 c1 c2 c3;clear hx;go_wp2;change bodyPost _ _ _ _ _ (fill4 w3 w.heap.size (.int .i64 k) (.string (mk l)) (.string ⟨#[]⟩) (.slice none 0 0));generalize fill4 w3 w.heap.size (.int .i64 k) (.string (mk l)) (.string ⟨#[]⟩) (.slice none 0 0)=WF at HF HBF |-;have j0:=HF.cell 0;have j1:=HF.cell 1;have j2:=HF.cell 2;have j3:=HF.cell 3;refine bodyPost_ret (v:=.agg #[.int .i64 k,.string (mk l),.string ⟨#[]⟩,.slice none 0 0]) (by simp[results,Tryz.results129,go_sem,j0,j1,j2,j3]) rfl ?_;exact⟨rfl,HBF.out⟩
def ckT (l:Ln):Tr:=if (Quo.rd l).2.2.1=0 then ⟨4,(Quo.rd l).1,[],[]⟩else if isP (cutT l false) false=true then ⟨knd (cutT l false),if knd (cutT l false)=1 then []else cutT l false,[],[]⟩else tr0
def ckR (l:Ln):Ln:=if (Quo.rd l).2.2.1=0 then gaps (l.drop (Quo.rd l).2.1)else if isP (cutT l false) false=true then l.drop (fin l false)else []
def ckB (l:Ln):Bool:=if (Quo.rd l).2.2.1=0 then true else isP (cutT l false) false
theorem cutKey_any (l:Ln) (hl:l.length<=140737488351232) (hT:Tb w):Calls Tryz.prog 113 #[.string (mk l)] w fun e w'=>e=.returned (.tuple #[lfV (ckT l).kind (ckT l).text [],.string (mk (ckR l)),.bool (ckB l)])/\Below w.heap.size w w':=by
 have hsz:=mk_size l;have hb0:=below_alloc w (.cells zT 35);have hx0:=Bx.new w zT 35;by_cases hq:(Quo.rd l).2.2.1=0
 ·have HRD:Hid (Calls Tryz.prog 126 #[.string (mk l)] (w.alloc (.cells zT 35)) fun e w'=>e=.returned (.tuple #[.string (mk (Quo.rd l).1),.int .i64 ((Quo.rd l).2.1:Int),.agg #[.int .i64 0,.int .i64 ((Quo.rd l).2.2.2:Int)]])/\Hid (Bx w' w.heap.size zT 35/\Below w.heap.size w w')):=by
   have:=Quo.read_any l (w.alloc (.cells zT 35)) hl (hT.later hb0).2;unfold Quo.rdV at this;rw[hq]at this;exact this.mono (fun e w' g=>⟨g.1,hx0.later g.2,hb0.trans (g.2.mono hb0.size)⟩)
  have hm:=(Quo.rd_means l hq).2.2;have HV:Hid ((ckT l).kind=4/\(ckT l).text=(Quo.rd l).1/\ckR l=gaps (l.drop (Quo.rd l).2.1)/\ckB l=true):=by unfold ckT ckR ckB;rw[if_pos hq,if_pos hq,if_pos hq];exact⟨rfl,rfl,rfl,rfl⟩
  have HWB:Hid (∀ w0,Calls Tryz.prog 90 #[.string (mk (l.drop (Quo.rd l).2.1))] w0 fun e w'=>e=.returned (.string (mk (gaps (l.drop (Quo.rd l).2.1))))/\w0=w'):=fun w0=>withoutBlanks_any _ w0 (by rw[List.length_drop];omega)
  have hext:(mk l).extract (Quo.rd l).2.1 l.length=mk (l.drop (Quo.rd l).2.1):=by rw[mk_ext];congr 1;rw[List.take_of_length_le (by simp)]
  rw[HV.out.1,HV.out.2.1,HV.out.2.2.1,HV.out.2.2.2];clear HV hT hb0 hx0 hq;generalize gaps (l.drop (Quo.rd l).2.1)=g at *;generalize mk (l.drop (Quo.rd l).2.1)=d at *;generalize (Quo.rd l).1=t at *;generalize (Quo.rd l).2.1=n at *;generalize (Quo.rd l).2.2.2=z at *;obtain⟨W,hW⟩:∃ W,w.alloc (.cells zT 35)=W:=⟨_,rfl⟩;rw[hW]at HRD;have hW':w.alloc (.cells #[.int .i64 0,.string ⟨#[]⟩,.string ⟨#[]⟩,.slice none 0 0] 35)=W:=hW;clear hW;go_enter Tryz.func113,Tryz.ntmps113;go_wp2_with fail;refine HRD.out.mono ?_;rintro e w3 ⟨rfl,H3⟩;obtain⟨K0,HK⟩:∃ K0,Hid (K0=w.heap.size):=⟨_,rfl⟩
  have H4:Hid (Bx (w3.alloc (.cells #[.int .i64 0,.int .i64 (z:Int)] 32)) K0 zT 35/\Below w.heap.size w (w3.alloc (.cells #[.int .i64 0,.int .i64 (z:Int)] 32))):=by
   have b:=below_alloc w3 (.cells #[.int .i64 0,.int .i64 (z:Int)] 32);rw[HK.out];exact⟨H3.out.1.later b,H3.out.2.trans (b.mono H3.out.2.size)⟩
  go_wp2_with fail;generalize w3.alloc (.cells #[.int .i64 0,.int .i64 (z:Int)] 32)=w4 at H4 |-;rw[<-HK.out];refine(HWB.out _).mono ?_;rintro e w' ⟨rfl,rfl⟩;have hx4:Bx w4 K0 zT 35:=H4.out.1;have c0:=hx4.cell 0;have c1:=hx4.cell 1;have c2:=hx4.cell 2;have c3:=hx4.cell 3;have z0:=hx4.fz 0;have z1:=hx4.fz 1;have z2:=hx4.fz 2;have z3:=hx4.fz 3;simp only[zT]at c0 c1 c2 c3;have HF:=hx4.fill4 rfl (.int .i64 4) (.string (mk t)) (.string ⟨#[]⟩) (.slice none 0 0);have HBF:Hid (Below w.heap.size w (fill4 w4 K0 (.int .i64 4) (.string (mk t)) (.string ⟨#[]⟩) (.slice none 0 0))):=below_fill4 H4.out.2 (Nat.le_of_eq HK.out.symm) _ _ _ _;clear hx4 H4;go_wp2;change bodyPost _ _ _ _ _ (fill4 w4 K0 (.int .i64 4) (.string (mk t)) (.string ⟨#[]⟩) (.slice none 0 0));generalize fill4 w4 K0 (.int .i64 4) (.string (mk t)) (.string ⟨#[]⟩) (.slice none 0 0)=WF at HF HBF |-;have j0:=HF.cell 0;have j1:=HF.cell 1;have j2:=HF.cell 2;have j3:=HF.cell 3;simp at j0 j1 j2 j3;exact bodyPost_ret (v:=.tuple #[.agg #[.int .i64 4,.string (mk t),.string ⟨#[]⟩,.slice none 0 0],.string (mk g),.bool true]) (by simp[results,Tryz.results113,go_sem,j0,j1,j2,j3]) rfl ⟨rfl,HBF.out⟩
 ·have HRD:Hid (Calls Tryz.prog 126 #[.string (mk l)] (w.alloc (.cells zT 35)) fun e w'=>e=.returned (.tuple #[.string (mk (Quo.rd l).1),.int .i64 ((Quo.rd l).2.1:Int),.agg #[.int .i64 ((Quo.rd l).2.2.1:Int),.int .i64 ((Quo.rd l).2.2.2:Int)]])/\Hid (Bx w' w.heap.size zT 35/\Below w.heap.size w w')) :=
   (Quo.read_any l (w.alloc (.cells zT 35)) hl (hT.later hb0).2).mono (fun e w' g=>⟨g.1,hx0.later g.2,hb0.trans (g.2.mono hb0.size)⟩)
  have hcl:=cutT_len l false;have hfl:=fin_le l false;have HCU:Hid (∀ w0,Calls Tryz.prog 127 #[.string (mk l),.bool false] w0 fun e w'=>e=.returned (.tuple #[.string (mk (cutT l false)),.int .i64 (fin l false:Int)])/\Hid (Below w0.heap.size w0 w')):=fun w0=>cut_any l false w0 (by omega)
  have HIS:Hid (∀ w0,Calls Tryz.prog 128 #[.string (mk (cutT l false)),.bool false] w0 fun e w'=>e=.returned (.bool (isP (cutT l false) false))/\Hid (Below w0.heap.size w0 w')):=fun w0=>is_any _ false w0 (by omega)
  have HPK:Hid (∀ w0,Below w.heap.size w w0->Calls Tryz.prog 129 #[.string (mk (cutT l false))] w0 fun e w'=>e=.returned (lfV (knd (cutT l false)) (if knd (cutT l false)=1 then []else cutT l false) [])/\Hid (Below w0.heap.size w0 w')):=fun w0 b=>plainKey_any _ (by omega) (hT.later b)
  have hqe:(((Quo.rd l).2.2.1:Int)==0)=false:=by simpa using hq
  have hext:(mk l).extract (fin l false) l.length=mk (l.drop (fin l false)):=by rw[mk_ext];congr 1;rw[List.take_of_length_le (by simp)]
  obtain⟨W,hW⟩:∃ W,w.alloc (.cells zT 35)=W:=⟨_,rfl⟩;rw[hW]at HRD;have hW':w.alloc (.cells #[.int .i64 0,.string ⟨#[]⟩,.string ⟨#[]⟩,.slice none 0 0] 35)=W:=hW;have HQ:Hid ((Quo.rd l).2.2.1≠0):=hq;clear hW hT hb0 hx0 hq;cases hi:isP (cutT l false) false
  ·have HV:Hid (ckT l=tr0/\ckR l=[]/\ckB l=false):=by unfold ckT ckR ckB;rw[if_neg HQ.out,if_neg HQ.out,if_neg HQ.out,hi];exact⟨rfl,rfl,rfl⟩
   rw[HV.out.1,HV.out.2.1,HV.out.2.2];rw[hi]at HIS;clear HV hi HPK hext;generalize (Quo.rd l).2.2.1=q1 at *;generalize (Quo.rd l).2.2.2=z at *;generalize (Quo.rd l).1=t at *;generalize (Quo.rd l).2.1=n at *;generalize cutT l false=c at *;generalize fin l false=f at *;go_enter Tryz.func113,Tryz.ntmps113;go_wp2_with fail;refine HRD.out.mono ?_;rintro e w3 ⟨rfl,H3⟩;obtain⟨K0,HK⟩:∃ K0,Hid (K0=w.heap.size):=⟨_,rfl⟩
   have H4:Hid (Bx (w3.alloc (.cells #[.int .i64 (q1:Int),.int .i64 (z:Int)] 32)) K0 zT 35/\Below w.heap.size w (w3.alloc (.cells #[.int .i64 (q1:Int),.int .i64 (z:Int)] 32))):=by
    have b:=below_alloc w3 (.cells #[.int .i64 (q1:Int),.int .i64 (z:Int)] 32);rw[HK.out];exact⟨H3.out.1.later b,H3.out.2.trans (b.mono H3.out.2.size)⟩
   go_wp2_with fail;generalize w3.alloc (.cells #[.int .i64 (q1:Int),.int .i64 (z:Int)] 32)=w5 at H4 |-;rw[<-HK.out];refine(HCU.out _).mono ?_;rintro e w6 ⟨rfl,H6⟩;go_wp2_with fail;refine(HIS.out _).mono ?_;rintro e w4 ⟨rfl,H7⟩
   replace H4:Hid (Bx w4 K0 zT 35/\Below w.heap.size w w4):=by
    have b:=H6.out.trans (H7.out.mono H6.out.size);exact⟨H4.out.1.later b,H4.out.2.trans (b.mono H4.out.2.size)⟩
   have hx4:Bx w4 K0 zT 35:=H4.out.1;have c0:=hx4.cell 0;have c1:=hx4.cell 1;have c2:=hx4.cell 2;have c3:=hx4.cell 3;have z0:=hx4.fz 0;have z1:=hx4.fz 1;have z2:=hx4.fz 2;have z3:=hx4.fz 3;simp only[zT]at c0 c1 c2 c3;have HF:=hx4.fill4 rfl (.int .i64 0) (.string ⟨#[]⟩) (.string ⟨#[]⟩) (.slice none 0 0);have HBF:Hid (Below w.heap.size w (fill4 w4 K0 (.int .i64 0) (.string ⟨#[]⟩) (.string ⟨#[]⟩) (.slice none 0 0))):=below_fill4 H4.out.2 (Nat.le_of_eq HK.out.symm) _ _ _ _;clear hx4 H4;go_wp2;change bodyPost _ _ _ _ _ (fill4 w4 K0 (.int .i64 0) (.string ⟨#[]⟩) (.string ⟨#[]⟩) (.slice none 0 0));generalize fill4 w4 K0 (.int .i64 0) (.string ⟨#[]⟩) (.string ⟨#[]⟩) (.slice none 0 0)=WF at HF HBF |-;have j0:=HF.cell 0;have j1:=HF.cell 1;have j2:=HF.cell 2;have j3:=HF.cell 3;simp at j0 j1 j2 j3;exact bodyPost_ret (v:=.tuple #[.agg #[.int .i64 0,.string ⟨#[]⟩,.string ⟨#[]⟩,.slice none 0 0],.string (⟨#[]⟩),.bool false]) (by simp[results,Tryz.results113,go_sem,j0,j1,j2,j3]) rfl ⟨rfl,HBF.out⟩
  ·have HV:Hid ((ckT l).kind=knd (cutT l false)/\(ckT l).text=(if knd (cutT l false)=1 then []else cutT l false)/\ckR l=l.drop (fin l false)/\ckB l=true):=by unfold ckT ckR ckB;rw[if_neg HQ.out,if_neg HQ.out,if_neg HQ.out,hi];exact⟨rfl,rfl,rfl,rfl⟩
   rw[HV.out.1,HV.out.2.1,HV.out.2.2.1,HV.out.2.2.2];rw[hi]at HIS;clear HV hi;generalize (if knd (cutT l false)=1 then []else cutT l false)=kt at *;generalize knd (cutT l false)=kk at *;generalize mk (l.drop (fin l false))=d at *;generalize (Quo.rd l).2.2.1=q1 at *;generalize (Quo.rd l).2.2.2=z at *;generalize (Quo.rd l).1=t at *;generalize (Quo.rd l).2.1=n at *;generalize cutT l false=c at *;generalize fin l false=f at *;go_enter Tryz.func113,Tryz.ntmps113;go_wp2_with fail;refine HRD.out.mono ?_;rintro e w3 ⟨rfl,H3⟩;obtain⟨K0,HK⟩:∃ K0,Hid (K0=w.heap.size):=⟨_,rfl⟩
   have H4:Hid (Bx (w3.alloc (.cells #[.int .i64 (q1:Int),.int .i64 (z:Int)] 32)) K0 zT 35/\Below w.heap.size w (w3.alloc (.cells #[.int .i64 (q1:Int),.int .i64 (z:Int)] 32))):=by
    have b:=below_alloc w3 (.cells #[.int .i64 (q1:Int),.int .i64 (z:Int)] 32);rw[HK.out];exact⟨H3.out.1.later b,H3.out.2.trans (b.mono H3.out.2.size)⟩
   go_wp2_with fail;generalize w3.alloc (.cells #[.int .i64 (q1:Int),.int .i64 (z:Int)] 32)=w5 at H4 |-;rw[<-HK.out];refine(HCU.out _).mono ?_;rintro e w6 ⟨rfl,H6⟩;go_wp2_with fail;refine(HIS.out _).mono ?_;rintro e w7 ⟨rfl,H7⟩
   have B7:Hid (Below w.heap.size w w7):=by
    have b:=H6.out.trans (H7.out.mono H6.out.size);exact H4.out.2.trans (b.mono H4.out.2.size)
   have X7:Hid (Bx w7 K0 zT 35):=by
    have b:=H6.out.trans (H7.out.mono H6.out.size);exact H4.out.1.later b
   have HP2:Hid (∀ m,Calls Tryz.prog 129 #[.string (mk c)] (w7.drewN m) fun e w'=>e=.returned (.agg #[.int .i64 kk,.string (mk kt),.string ⟨#[]⟩,.slice none 0 0])/\w'.cell? ⟨K0,0,none⟩=some (.int .i64 0)/\w'.cell? ⟨K0,1,none⟩=some (.string ⟨#[]⟩)/\w'.cell? ⟨K0,2,none⟩=some (.string ⟨#[]⟩)/\w'.cell? ⟨K0,3,none⟩=some (.slice none 0 0) /\
     w'.frozen? ⟨K0,0,none⟩=false/\w'.frozen? ⟨K0,1,none⟩=false/\w'.frozen? ⟨K0,2,none⟩=false/\w'.frozen? ⟨K0,3,none⟩=false/\Hid (Bx w' K0 zT 35/\Below w.heap.size w w')):=fun m=>by
    have b:=below_drewN B7.out m;have hx:=X7.out.drew m;refine(HPK.out _ b).mono ?_;rintro e w' ⟨rfl,h⟩;have hx':=hx.later h.out;exact⟨rfl,hx'.cell 0,hx'.cell 1,hx'.cell 2,hx'.cell 3,hx'.fz 0,hx'.fz 1,hx'.fz 2,hx'.fz 3,hx',b.trans (h.out.mono b.size)⟩
   clear HPK X7 H4;go_wp2_with fail;go_region_with (go_at_call 129;refine(HP2.out _).mono ?_;rintro e w4 ⟨rfl,c0,c1,c2,c3,z0,z1,z2,z3,H4⟩)
   all_goals
    have HF:=H4.out.1.fill4 rfl (.int .i64 kk) (.string (mk kt)) (.string ⟨#[]⟩) (.slice none 0 0);have HBF:Hid (Below w.heap.size w (fill4 w4 K0 (.int .i64 kk) (.string (mk kt)) (.string ⟨#[]⟩) (.slice none 0 0))):=below_fill4 H4.out.2 (Nat.le_of_eq HK.out.symm) _ _ _ _;go_wp2;change bodyPost _ _ _ _ _ (fill4 w4 K0 (.int .i64 kk) (.string (mk kt)) (.string ⟨#[]⟩) (.slice none 0 0));generalize fill4 w4 K0 (.int .i64 kk) (.string (mk kt)) (.string ⟨#[]⟩) (.slice none 0 0)=WF at HF HBF |-;have j0:=HF.cell 0;have j1:=HF.cell 1;have j2:=HF.cell 2;have j3:=HF.cell 3;simp at j0 j1 j2 j3;exact bodyPost_ret (v:=.tuple #[.agg #[.int .i64 kk,.string (mk kt),.string ⟨#[]⟩,.slice none 0 0],.string d,.bool true]) (by simp[results,Tryz.results113,go_sem,j0,j1,j2,j3]) rfl ⟨rfl,HBF.out⟩
def isEn (l:Ln):Bool:=ckB l && hd (ckR l)==58 && eMk ((ckR l).drop 1)
def enT (l:Ln):Tr:=if isEn l=true then ckT l else tr0
def enR (l:Ln):Ln:=if isEn l=true then gaps ((ckR l).drop 1)else []
def enN (l:Ln):Nat:=if isEn l=true then l.length-(gaps ((ckR l).drop 1)).length else 0
theorem ckR_len (l:Ln):(ckR l).length<=l.length:=by
 unfold ckR;split
 ·have:=gaps_len (l.drop (Quo.rd l).2.1);rw[List.length_drop]at this;omega
 split
 ·rw[List.length_drop];omega
 ·simp
theorem entry0_any (l:Ln) (hl:l.length<=140737488351232) (hT:Tb w):Calls Tryz.prog 95 #[.string (mk l)] w fun e w'=>e=.returned (.tuple #[lfV (enT l).kind (enT l).text [],.string (mk (enR l)),.int .i64 (enN l:Int),.bool (isEn l)])/\Below w.heap.size w w':=by
 have hsz:=mk_size l;have hb0:=below_alloc w (.cells zT 35);have hx0:=Bx.new w zT 35
 have HCK:Hid (Calls Tryz.prog 113 #[.string (mk l)] (w.alloc (.cells zT 35)) fun e w'=>e=.returned (.tuple #[.agg #[.int .i64 (ckT l).kind,.string (mk (ckT l).text),.string ⟨#[]⟩,.slice none 0 0],.string (mk (ckR l)),.bool (ckB l)])/\Hid (Bx w' w.heap.size zT 35/\Below w.heap.size w w')) :=
  (cutKey_any l hl (hT.later hb0)).mono (fun e w' g=>⟨g.1,hx0.later g.2,hb0.trans (g.2.mono hb0.size)⟩)
 have hrl:=ckR_len l;have HC:Hid (∀ w0,Calls Tryz.prog 109 #[.string (mk (ckR l)),.string ⟨#[58]⟩] w0 fun e w'=>e=.returned (.tuple #[.string (mk (if hd (ckR l)=58 then (ckR l).drop 1 else ckR l)),.bool (hd (ckR l)==58)])/\w0=w'):=fun w0=>cutPrefix_any _ 58 w0 (by omega) (by decide)
 have hdl:((ckR l).drop 1).length<=l.length:=by rw[List.length_drop];omega
 have HE:Hid (∀ w0,Calls Tryz.prog 112 #[.string (mk ((ckR l).drop 1))] w0 fun e w'=>e=.returned (.bool (eMk ((ckR l).drop 1)))/\w0=w'):=fun w0=>endsMark_any _ w0 (by omega)
 have HW:Hid (∀ w0,Calls Tryz.prog 90 #[.string (mk ((ckR l).drop 1))] w0 fun e w'=>e=.returned (.string (mk (gaps ((ckR l).drop 1))))/\w0=w'):=fun w0=>withoutBlanks_any _ w0 (by omega)
 have hgl:=gaps_len ((ckR l).drop 1);have hgz:=mk_size (gaps ((ckR l).drop 1));have HI:Hid (isEn l=(ckB l && hd (ckR l)==58 && eMk ((ckR l).drop 1))):=rfl;have HN:Hid (isEn l=false->(enT l).kind=0/\(enT l).text=[]/\enR l=[]/\enN l=0):=fun h=>by unfold enT enR enN;rw[h];exact⟨rfl,rfl,rfl,rfl⟩
 have HY:Hid (isEn l=true->(enT l).kind=(ckT l).kind/\(enT l).text=(ckT l).text/\enR l=gaps ((ckR l).drop 1)/\((enN l:Nat):Int)=(l.length:Int)-((gaps ((ckR l).drop 1)).length:Int)):=fun h=>by unfold enT enR enN;rw[h];exact⟨rfl,rfl,rfl,by simp only[if_true];omega⟩
 obtain⟨W,hW⟩:∃ W,w.alloc (.cells zT 35)=W:=⟨_,rfl⟩;rw[hW]at HCK;have hW':w.alloc (.cells #[.int .i64 0,.string ⟨#[]⟩,.string ⟨#[]⟩,.slice none 0 0] 35)=W:=hW;clear hW hT hb0 hx0;generalize (ckT l).kind=ck at *;generalize (ckT l).text=ct at *;generalize gaps ((ckR l).drop 1)=g at *;cases hb:ckB l
 ·rw[hb]at HCK HI;have hf:isEn l=false:=HI.out;rw[(HN.out hf).1,(HN.out hf).2.1,(HN.out hf).2.2.1,(HN.out hf).2.2.2,hf];clear HN HY HI hb hf HC HE HW;generalize ckR l=r at *;go_enter Tryz.func95,Tryz.ntmps95;go_wp2_with fail;refine HCK.out.mono ?_;rintro e w3 ⟨rfl,H3⟩;obtain⟨K0,HK⟩:∃ K0,Hid (K0=w.heap.size):=⟨_,rfl⟩
  have H4:Hid (Bx (w3.alloc (.cells #[.int .i64 ck,.string (mk ct),.string ⟨#[]⟩,.slice none 0 0] 35)) K0 zT 35/\Below w.heap.size w (w3.alloc (.cells #[.int .i64 ck,.string (mk ct),.string ⟨#[]⟩,.slice none 0 0] 35))):=by
   have b:=below_alloc w3 (.cells #[.int .i64 ck,.string (mk ct),.string ⟨#[]⟩,.slice none 0 0] 35);rw[HK.out];exact⟨H3.out.1.later b,H3.out.2.trans (b.mono H3.out.2.size)⟩
  have kx:=Bx.new w3 #[.int .i64 ck,.string (mk ct),.string ⟨#[]⟩,.slice none 0 0] 35;obtain⟨k0,k1,k2,k3⟩:=kx.c4;have HKK:Hid (w3.heap.size≠K0):=by have:=H3.out.1.lt;rw[HK.out];show _≠_;omega
  clear kx;go_upto_region 2 with fail
  generalize w3.alloc (.cells #[.int .i64 ck,.string (mk ct),.string ⟨#[]⟩,.slice none 0 0] 35)=w4 at H4 k0 k1 k2 k3 |-;rw[<-HK.out];generalize w3.heap.size=K1 at *;have hKK:=HKK.out;have hx4:Bx w4 K0 zT 35:=H4.out.1;have c0:=hx4.cell 0;have c1:=hx4.cell 1;have c2:=hx4.cell 2;have c3:=hx4.cell 3;have z0:=hx4.fz 0;have z1:=hx4.fz 1;have z2:=hx4.fz 2;have z3:=hx4.fz 3;simp only[zT]at c0 c1 c2 c3;have HF:=hx4.fill4 rfl (.int .i64 0) (.string ⟨#[]⟩) (.string ⟨#[]⟩) (.slice none 0 0);have HBF:Hid (Below w.heap.size w (fill4 w4 K0 (.int .i64 0) (.string ⟨#[]⟩) (.string ⟨#[]⟩) (.slice none 0 0))):=below_fill4 H4.out.2 (Nat.le_of_eq HK.out.symm) _ _ _ _;clear hx4 H4;go_wp2;change bodyPost _ _ _ _ _ (fill4 w4 K0 (.int .i64 0) (.string ⟨#[]⟩) (.string ⟨#[]⟩) (.slice none 0 0));generalize fill4 w4 K0 (.int .i64 0) (.string ⟨#[]⟩) (.string ⟨#[]⟩) (.slice none 0 0)=WF at HF HBF |-;have j0:=HF.cell 0;have j1:=HF.cell 1;have j2:=HF.cell 2;have j3:=HF.cell 3;simp at j0 j1 j2 j3;exact bodyPost_ret (v:=.tuple #[.agg #[.int .i64 0,.string ⟨#[]⟩,.string ⟨#[]⟩,.slice none 0 0],.string (⟨#[]⟩),.int .i64 (0),.bool false]) (by simp[results,Tryz.results95,go_sem,j0,j1,j2,j3]) rfl ⟨rfl,HBF.out⟩
 rw[hb]at HCK HI;by_cases h58:hd (ckR l)=58
 ·have q58:(hd (ckR l)==58)=true:=by simpa using h58
  rw[if_pos h58,q58]at HC;rw[q58]at HI;cases hm:eMk ((ckR l).drop 1)
  ·rw[hm]at HE HI;have hf:isEn l=false:=HI.out;rw[(HN.out hf).1,(HN.out hf).2.1,(HN.out hf).2.2.1,(HN.out hf).2.2.2,hf];clear HN HY HI hb hf HW h58 q58 hm;generalize (ckR l).drop 1=d at *;generalize ckR l=r at *;go_enter Tryz.func95,Tryz.ntmps95;go_wp2_with fail;refine HCK.out.mono ?_;rintro e w3 ⟨rfl,H3⟩;obtain⟨K0,HK⟩:∃ K0,Hid (K0=w.heap.size):=⟨_,rfl⟩
   have H4:Hid (Bx (w3.alloc (.cells #[.int .i64 ck,.string (mk ct),.string ⟨#[]⟩,.slice none 0 0] 35)) K0 zT 35/\Below w.heap.size w (w3.alloc (.cells #[.int .i64 ck,.string (mk ct),.string ⟨#[]⟩,.slice none 0 0] 35))):=by
    have b:=below_alloc w3 (.cells #[.int .i64 ck,.string (mk ct),.string ⟨#[]⟩,.slice none 0 0] 35);rw[HK.out];exact⟨H3.out.1.later b,H3.out.2.trans (b.mono H3.out.2.size)⟩
   have kx:=Bx.new w3 #[.int .i64 ck,.string (mk ct),.string ⟨#[]⟩,.slice none 0 0] 35;obtain⟨k0,k1,k2,k3⟩:=kx.c4;have HKK:Hid (w3.heap.size≠K0):=by have:=H3.out.1.lt;rw[HK.out];show _≠_;omega
   clear kx;go_upto_region 2 with fail
   generalize w3.alloc (.cells #[.int .i64 ck,.string (mk ct),.string ⟨#[]⟩,.slice none 0 0] 35)=w4 at H4 k0 k1 k2 k3 |-;rw[<-HK.out];generalize w3.heap.size=K1 at *;have hKK:=HKK.out;go_wp2_with fail;refine(HC.out _).mono ?_;rintro e w' ⟨rfl,rfl⟩;go_wp2_with fail;refine(HE.out _).mono ?_;rintro e w' ⟨rfl,rfl⟩;have hx4:Bx w4 K0 zT 35:=H4.out.1;have c0:=hx4.cell 0;have c1:=hx4.cell 1;have c2:=hx4.cell 2;have c3:=hx4.cell 3;have z0:=hx4.fz 0;have z1:=hx4.fz 1;have z2:=hx4.fz 2;have z3:=hx4.fz 3;simp only[zT]at c0 c1 c2 c3;have HF:=hx4.fill4 rfl (.int .i64 0) (.string ⟨#[]⟩) (.string ⟨#[]⟩) (.slice none 0 0);have HBF:Hid (Below w.heap.size w (fill4 w4 K0 (.int .i64 0) (.string ⟨#[]⟩) (.string ⟨#[]⟩) (.slice none 0 0))):=below_fill4 H4.out.2 (Nat.le_of_eq HK.out.symm) _ _ _ _;clear hx4 H4;go_wp2;change bodyPost _ _ _ _ _ (fill4 w4 K0 (.int .i64 0) (.string ⟨#[]⟩) (.string ⟨#[]⟩) (.slice none 0 0));generalize fill4 w4 K0 (.int .i64 0) (.string ⟨#[]⟩) (.string ⟨#[]⟩) (.slice none 0 0)=WF at HF HBF |-;have j0:=HF.cell 0;have j1:=HF.cell 1;have j2:=HF.cell 2;have j3:=HF.cell 3;simp at j0 j1 j2 j3;exact bodyPost_ret (v:=.tuple #[.agg #[.int .i64 0,.string ⟨#[]⟩,.string ⟨#[]⟩,.slice none 0 0],.string (⟨#[]⟩),.int .i64 (0),.bool false]) (by simp[results,Tryz.results95,go_sem,j0,j1,j2,j3]) rfl ⟨rfl,HBF.out⟩
  ·rw[hm]at HE HI;have hf:isEn l=true:=HI.out;rw[(HY.out hf).1,(HY.out hf).2.1,(HY.out hf).2.2.1,(HY.out hf).2.2.2,hf];clear HN HY HI hb hf h58 q58 hm;generalize (ckR l).drop 1=d at *;generalize ckR l=r at *;go_enter Tryz.func95,Tryz.ntmps95;go_wp2_with fail;refine HCK.out.mono ?_;rintro e w3 ⟨rfl,H3⟩;obtain⟨K0,HK⟩:∃ K0,Hid (K0=w.heap.size):=⟨_,rfl⟩
   have H4:Hid (Bx (w3.alloc (.cells #[.int .i64 ck,.string (mk ct),.string ⟨#[]⟩,.slice none 0 0] 35)) K0 zT 35/\Below w.heap.size w (w3.alloc (.cells #[.int .i64 ck,.string (mk ct),.string ⟨#[]⟩,.slice none 0 0] 35))):=by
    have b:=below_alloc w3 (.cells #[.int .i64 ck,.string (mk ct),.string ⟨#[]⟩,.slice none 0 0] 35);rw[HK.out];exact⟨H3.out.1.later b,H3.out.2.trans (b.mono H3.out.2.size)⟩
   have kx:=Bx.new w3 #[.int .i64 ck,.string (mk ct),.string ⟨#[]⟩,.slice none 0 0] 35;obtain⟨k0,k1,k2,k3⟩:=kx.c4;have HKK:Hid (w3.heap.size≠K0):=by have:=H3.out.1.lt;rw[HK.out];show _≠_;omega
   clear kx;go_upto_region 2 with fail
   generalize w3.alloc (.cells #[.int .i64 ck,.string (mk ct),.string ⟨#[]⟩,.slice none 0 0] 35)=w4 at H4 k0 k1 k2 k3 |-;rw[<-HK.out];generalize w3.heap.size=K1 at *;have hKK:=HKK.out;go_wp2_with fail;refine(HC.out _).mono ?_;rintro e w' ⟨rfl,rfl⟩;go_wp2_with fail;refine(HE.out _).mono ?_;rintro e w' ⟨rfl,rfl⟩;go_wp2_with fail;refine(HW.out _).mono ?_;rintro e w' ⟨rfl,rfl⟩;have hx4:Bx w4 K0 zT 35:=H4.out.1;have c0:=hx4.cell 0;have c1:=hx4.cell 1;have c2:=hx4.cell 2;have c3:=hx4.cell 3;have z0:=hx4.fz 0;have z1:=hx4.fz 1;have z2:=hx4.fz 2;have z3:=hx4.fz 3;simp only[zT]at c0 c1 c2 c3;have HF:=hx4.fill4 rfl (.int .i64 ck) (.string (mk ct)) (.string ⟨#[]⟩) (.slice none 0 0);have HBF:Hid (Below w.heap.size w (fill4 w4 K0 (.int .i64 ck) (.string (mk ct)) (.string ⟨#[]⟩) (.slice none 0 0))):=below_fill4 H4.out.2 (Nat.le_of_eq HK.out.symm) _ _ _ _;clear hx4 H4;go_wp2;change bodyPost _ _ _ _ _ (fill4 w4 K0 (.int .i64 ck) (.string (mk ct)) (.string ⟨#[]⟩) (.slice none 0 0));generalize fill4 w4 K0 (.int .i64 ck) (.string (mk ct)) (.string ⟨#[]⟩) (.slice none 0 0)=WF at HF HBF |-;have j0:=HF.cell 0;have j1:=HF.cell 1;have j2:=HF.cell 2;have j3:=HF.cell 3;simp at j0 j1 j2 j3;exact bodyPost_ret (v:=.tuple #[.agg #[.int .i64 ck,.string (mk ct),.string ⟨#[]⟩,.slice none 0 0],.string (mk g),.int .i64 ((l.length:Int)-(g.length:Int)),.bool true]) (by simp[results,Tryz.results95,go_sem,j0,j1,j2,j3]) rfl ⟨rfl,HBF.out⟩
 ·have q58:(hd (ckR l)==58)=false:=by simpa using h58
  rw[if_neg h58,q58]at HC;rw[q58]at HI;have hf:isEn l=false:=HI.out;rw[(HN.out hf).1,(HN.out hf).2.1,(HN.out hf).2.2.1,(HN.out hf).2.2.2,hf];clear HN HY HI hb hf HW h58 q58 HE;generalize ckR l=r at *;go_enter Tryz.func95,Tryz.ntmps95;go_wp2_with fail;refine HCK.out.mono ?_;rintro e w3 ⟨rfl,H3⟩;obtain⟨K0,HK⟩:∃ K0,Hid (K0=w.heap.size):=⟨_,rfl⟩
  have H4:Hid (Bx (w3.alloc (.cells #[.int .i64 ck,.string (mk ct),.string ⟨#[]⟩,.slice none 0 0] 35)) K0 zT 35/\Below w.heap.size w (w3.alloc (.cells #[.int .i64 ck,.string (mk ct),.string ⟨#[]⟩,.slice none 0 0] 35))):=by
   have b:=below_alloc w3 (.cells #[.int .i64 ck,.string (mk ct),.string ⟨#[]⟩,.slice none 0 0] 35);rw[HK.out];exact⟨H3.out.1.later b,H3.out.2.trans (b.mono H3.out.2.size)⟩
  have kx:=Bx.new w3 #[.int .i64 ck,.string (mk ct),.string ⟨#[]⟩,.slice none 0 0] 35;obtain⟨k0,k1,k2,k3⟩:=kx.c4;have HKK:Hid (w3.heap.size≠K0):=by have:=H3.out.1.lt;rw[HK.out];show _≠_;omega
  clear kx;go_upto_region 2 with fail
  generalize w3.alloc (.cells #[.int .i64 ck,.string (mk ct),.string ⟨#[]⟩,.slice none 0 0] 35)=w4 at H4 k0 k1 k2 k3 |-;rw[<-HK.out];generalize w3.heap.size=K1 at *;have hKK:=HKK.out;go_wp2_with fail;refine(HC.out _).mono ?_;rintro e w' ⟨rfl,rfl⟩;have hx4:Bx w4 K0 zT 35:=H4.out.1;have c0:=hx4.cell 0;have c1:=hx4.cell 1;have c2:=hx4.cell 2;have c3:=hx4.cell 3;have z0:=hx4.fz 0;have z1:=hx4.fz 1;have z2:=hx4.fz 2;have z3:=hx4.fz 3;simp only[zT]at c0 c1 c2 c3;have HF:=hx4.fill4 rfl (.int .i64 0) (.string ⟨#[]⟩) (.string ⟨#[]⟩) (.slice none 0 0);have HBF:Hid (Below w.heap.size w (fill4 w4 K0 (.int .i64 0) (.string ⟨#[]⟩) (.string ⟨#[]⟩) (.slice none 0 0))):=below_fill4 H4.out.2 (Nat.le_of_eq HK.out.symm) _ _ _ _;clear hx4 H4;go_wp2;change bodyPost _ _ _ _ _ (fill4 w4 K0 (.int .i64 0) (.string ⟨#[]⟩) (.string ⟨#[]⟩) (.slice none 0 0));generalize fill4 w4 K0 (.int .i64 0) (.string ⟨#[]⟩) (.string ⟨#[]⟩) (.slice none 0 0)=WF at HF HBF |-;have j0:=HF.cell 0;have j1:=HF.cell 1;have j2:=HF.cell 2;have j3:=HF.cell 3;simp at j0 j1 j2 j3;exact bodyPost_ret (v:=.tuple #[.agg #[.int .i64 0,.string ⟨#[]⟩,.string ⟨#[]⟩,.slice none 0 0],.string (⟨#[]⟩),.int .i64 (0),.bool false]) (by simp[results,Tryz.results95,go_sem,j0,j1,j2,j3]) rfl ⟨rfl,HBF.out⟩
end Tre
namespace Tre
open Utf Rws Pln Flw
open Go.RowKit
open Blk (Rw RwAt z3 lo rws joinW trm fld headO hdV)
abbrev Tf:=Tr × Int × Int
abbrev Hd:=Rw × Pp
def hds (dp:Bool):Nat->Int->List Rw->List Hd × List Rw × Int × Int
 | 0,_,_=>([],[],0,0)
 | n+1,c,rs=>match cnt rs with
  | []=>([],[],0,0)
  | r::rest=>if r.1<c then ([],[],9,r.2.2)else
   if (!noth (CP ⟨[],0⟩ r.2.1).2 || dp)=true then ([],r::rest,0,0)else
   ((r,(CP ⟨[],0⟩ r.2.1).1)::(hds dp n r.1 rest).1,(hds dp n r.1 rest).2)
def orM (h:Hd) (t:Tr):Tf :=
 if samePp h.2 ⟨[],0⟩=true then (t,0,0)else if orB h.2 t.kind t.anc=true then (tr0,3,h.1.2.2)else if onB h.2 t.kind=true then (tr0,12,h.1.2.2)else (⟨t.kind,t.text,h.2.anc,t.kids⟩,0,0)
def noM (h:Hd):Tf:=if onB h.2 (nuK h.2)=true then (tr0,12,h.1.2.2)else (⟨nuK h.2,[],h.2.anc,[]⟩,0,0)
def bak:List Hd->Tf->Tf
 | [],r=>r
 | h::hs,r=>if r.2.1≠0 then (tr0,r.2)else bak hs (orM h r.1)
def beM (val:Rw->List Rw->Tf) (dp:Bool) (h:Hd) (rs:List Rw):Tf :=
 let q:=hds dp (rs.length+1) h.1.1 rs
 if q.2.2.1≠0 then (tr0,q.2.2)else match q.2.1 with
  | r::rest=>bak (h::q.1).reverse (val r rest)
  | []=>bak (h::q.1).reverse.tail (noM ((h::q.1).reverse.headD h))
def meM (val:Int->Rw->List Rw->Tf) (ar:Int) (r:Rw) (l:Ln) (u:List Rw):Tf :=
 mnM (fun p=>beM (val ar) (decide (ar=64)) (r,p) u) r.1 r.2.2 l u
def itP (val:Int->Rw->List Rw->Tf) (ar:Int) (r:Rw) (u:List Rw):List Tr × Int × Int :=
 if isIt r.2.1=false then ([],3,r.2.2)else
 if isIt (itR r.2.1)=true\/isEn (itR r.2.1)=true then ([(val ar (mvd r.1 (itN r.2.1),itR r.2.1,r.2.2) u).1],(val ar (mvd r.1 (itN r.2.1),itR r.2.1,r.2.2) u).2)else
 ([(meM val ar r (itR r.2.1) u).1],(meM val ar r (itR r.2.1) u).2)
def enP (val:Int->Rw->List Rw->Tf) (ar:Int) (r:Rw) (u:List Rw):List Tr × Int × Int :=
 if isEn r.2.1=false then ([],3,r.2.2)else if 256<(enT r.2.1).text.length then ([],5,r.2.2)else
 ([⟨(enT r.2.1).kind,(enT r.2.1).text,[],[]⟩,(meM val ar r (enR r.2.1) u).1],(meM val ar r (enR r.2.1) u).2)
def kiM (part:Rw->List Rw->List Tr × Int × Int) (c:Int):Nat->Rw->List Rw->List Tr->List Tr × Int × Int
 | 0,_,_,_=>([],0,0)
 | n+1,r,more,acc =>
  if (part r (more.take (dpn more c))).2.1≠0 then ([],(part r (more.take (dpn more c))).2)else match more.drop (dpn more c)with
   | []=>(acc++(part r (more.take (dpn more c))).1,0,0)
   | r'::rest=>if r'.1<c then ([],9,r'.2.2)else kiM part c n r' rest (acc++(part r (more.take (dpn more c))).1)
def vaM:Nat->Int->Rw->List Rw->Tf
 | 0,_,_,_=>(tr0,0,0)
 | n+1,ar,r,more =>
  if ar=64 then (tr0,10,r.2.2)else
  if isIt r.2.1=true then (⟨5,[],[],(kiM (itP (vaM n) (ar+1)) r.1 (more.length+1) r more []).1⟩,(kiM (itP (vaM n) (ar+1)) r.1 (more.length+1) r more []).2)else
  if isEn r.2.1=true then (⟨6,[],[],(kiM (enP (vaM n) (ar+1)) r.1 (more.length+1) r more []).1⟩,(kiM (enP (vaM n) (ar+1)) r.1 (more.length+1) r more []).2)else
  meM (vaM n) ar r r.2.1 more
def msr (rs:List Rw):Nat:=(rs.map fun r=>r.2.1.length+1).sum
theorem msr_cons (r:Rw) (rs:List Rw):msr (r::rs)=r.2.1.length+1+msr rs:=by simp[msr]
theorem msr_app (a b:List Rw):msr (a++b)=msr a+msr b:=by simp[msr]
theorem cnt_len (rs:List Rw):(cnt rs).length<=rs.length:=by
 unfold cnt;exact(List.dropWhile_suffix _).length_le
end Tre
namespace Tre
open Utf Rws Pln Flw
open Go.RowKit
open Blk (Rw RwAt z3 lo rws joinW trm fld headO hdV)
theorem itR_len {x:Ln} (h:isIt x=true):(itR x).length<x.length:=by
 unfold itR;rw[if_pos h];have h1:=gaps_len (x.drop 1);rw[List.length_drop]at h1
 cases x with
 | nil=>exact absurd h (by decide)
 | cons b r=>simp only[List.length_cons]at *;omega
theorem itN_le (x:Ln):itN x<=x.length:=by
 unfold itN;split<;>omega
theorem enR_len (x:Ln):(enR x).length<=x.length:=by
 unfold enR;split
 ·have h1:=gaps_len ((ckR x).drop 1);have h2:=ckR_len x;rw[List.length_drop]at h1;omega
 ·exact Nat.zero_le _
theorem cpr_len:∀ (n:Nat) (p:Pp) (l:Ln),(cpr n p l).2.length<=l.length
 | 0,p,l=>gaps_len l
 | n+1,p,l=>by
  unfold cpr;split
  ·exact gaps_len l
  ·have h1:=cpr_len n (wth p (wrd (gaps l))) (beh (gaps l));have h2:=beh_le (gaps l);have h3:=gaps_len l;omega
theorem CP_len (p:Pp) (l:Ln):(CP p l).2.length<=l.length:=cpr_len _ p l
theorem wth_anc (p:Pp) (l:Ln):(wth p l).anc.length<=p.anc.length+l.length:=by
 unfold wth;split
 ·split
  ·show (l.drop 1).length<=_;rw[List.length_drop];omega
  ·omega
 ·split<;>exact Nat.le_add_right _ _
theorem cpr_anc:∀ (n:Nat) (p:Pp) (l:Ln),(cpr n p l).1.anc.length<=p.anc.length+l.length
 | 0,p,l=>Nat.le_add_right _ _
 | n+1,p,l=>by
  unfold cpr;split
  ·exact Nat.le_add_right _ _
  ·have h1:=cpr_anc n (wth p (wrd (gaps l))) (beh (gaps l))
   have h2:(beh (gaps l)).length+(wrd (gaps l)).length<=(gaps l).length:=by
    unfold beh;rw[List.length_drop];have:=wrd_le (gaps l);omega
   have h3:=gaps_len l;have h4:=wth_anc p (wrd (gaps l));omega
theorem CP_anc (l:Ln):(CP ⟨[],0⟩ l).1.anc.length<=l.length:=by
 have h:(CP ⟨[],0⟩ l).1.anc.length<=0+l.length:=cpr_anc (mu ⟨[],0⟩+1) ⟨[],0⟩ l;omega
theorem mvd_bd (c:Int) (n:Nat) (h: -9223372036854775808<=c) (h2:c<=9223372036854775807): -9223372036854775808<=mvd c n/\mvd c n<=9223372036854775807:=by
 unfold mvd;split<;>omega
theorem dpn_le (rs:List Rw) (c:Int):dpn rs c<=rs.length:=by
 unfold dpn;exact(List.takeWhile_prefix _).length_le
def BkOk (rs:List Rw):Prop:=∀ us,us <:+: rs->∀ c ls,lo none (rws us c)=.inl ls->(joinW 10 (trm ls)).length<=1000000000/\(fld (trm ls)).length<=1000000000
theorem BkOk.sub {rs us:List Rw} (h:BkOk rs) (hs:us <:+: rs):BkOk us:=fun vs hv=>h vs (hv.trans hs)
structure Good (rs:List Rw):Prop where
 len:rs.length<=1048576
 txt:∀ r∈rs,r.2.1.length<=65536
 col:∀ r∈rs,-9223372036854775808<=r.1/\r.1<=9223372036854775807
 bk:BkOk rs
theorem Good.sub {rs us:List Rw} (h:Good rs) (hs:us <:+: rs):Good us :=
 ⟨Nat.le_trans hs.length_le h.len,fun r hr=>h.txt r (hs.subset hr),fun r hr=>h.col r (hs.subset hr),h.bk.sub hs⟩
theorem msr_sub {rs us:List Rw} (hs:us <:+: rs):msr us<=msr rs:=by
 obtain⟨A,B,rfl⟩:=hs;rw[msr_app,msr_app];omega
theorem cnt_suffix (rs:List Rw):cnt rs <:+ rs:=by
 unfold cnt;exact List.dropWhile_suffix _
theorem hds_suffix (dp:Bool):∀ (n:Nat) (c:Int) (rs:List Rw),(hds dp n c rs).2.1 <:+ rs
 | 0,_,rs=>List.nil_suffix
 | n+1,c,rs=>by
  unfold hds;have h:=cnt_suffix rs
  cases hc:cnt rs with
  | nil=>exact List.nil_suffix
  | cons r rest =>
   rw[hc]at h;dsimp only;split
   ·exact List.nil_suffix
   ·split
    ·exact h
    ·exact((hds_suffix dp n r.1 rest).trans (List.suffix_cons r rest)).trans h
end Tre
namespace Tre
open Utf Rws Pln Flw
open Go.RowKit
set_option maxHeartbeats 2000000
theorem two_new (w:World) (c0 c1:Array Value) (t0 t1:TypeId) :
  Below w.heap.size w ((w.alloc (.cells c0 t0)).alloc (.cells c1 t1))/\Bx ((w.alloc (.cells c0 t0)).alloc (.cells c1 t1)) w.heap.size c0 t0 /\
  Bx ((w.alloc (.cells c0 t0)).alloc (.cells c1 t1)) (w.heap.size+1) c1 t1:=by
 have s1:(w.alloc (.cells c0 t0)).heap.size=w.heap.size+1:=World.size_alloc _ _;have b1:=below_alloc w (.cells c0 t0);have b2:=below_alloc (w.alloc (.cells c0 t0)) (.cells c1 t1);have n1:=Bx.new (w.alloc (.cells c0 t0)) c1 t1;rw[s1]at n1;exact⟨b1.trans (b2.mono b1.size),(Bx.new w c0 t0).later b2,n1⟩
variable {w:World}
theorem en_bd (l:Ln):0<=(enT l).kind/\(enT l).kind<=4/\(enT l).text.length<=l.length:=by
 unfold enT ckT;have h1:=rd_olen l;have h2:=knd_bd (cutT l false);have h3:=cutT_len l false;have h4:=fin_le l false;split
 ·split
  ·exact⟨by show (0:Int)<=4;decide,by show (4:Int)<=4;decide,h1⟩
  ·split
   ·refine⟨by show 0<=knd _;omega,h2.2,?_⟩;show (if knd (cutT l false)=1 then []else cutT l false).length<=_;split
    ·exact Nat.zero_le _
    ·omega
   ·exact⟨by decide,by decide,Nat.zero_le _⟩
 ·exact⟨by decide,by decide,Nat.zero_le _⟩
end Tre
namespace Tre
open Utf Rws Pln Flw
open Go.RowKit
open Blk (Rw RwAt z3)
set_option maxHeartbeats 4000000
def RowsA (w:World) (a:Option Addr) (len cap:Nat) (rs:List Rw):Prop:=RowsIn w a len cap rs/\((∃ b off,a=some ⟨b,off,none⟩)\/(a=none/\len=0/\cap=0))
theorem RowsA.later {w w':World} {a:Option Addr} {len cap:Nat} {rs:List Rw} (h:RowsA w a len cap rs) (hb:Below w.heap.size w w'):RowsA w' a len cap rs:=⟨h.1.later hb,h.2⟩
theorem RowsA.nil (w:World):RowsA w none 0 0 []:=⟨RowsIn.nil w,.inr ⟨rfl,rfl,rfl⟩⟩
theorem RowsA.len {w:World} {a:Option Addr} {len cap:Nat} {rs:List Rw} (h:RowsA w a len cap rs):len=rs.length:=by have:=h.1.1.1;omega
theorem RowsA.drop {w:World} {b off len cap:Nat} {rs:List Rw} (h:RowsA w (some ⟨b,off,none⟩) len cap rs) (j:Nat) (hj:j<=len):RowsA w (some (if cap=j then ⟨b,off,none⟩else ⟨b,off+j*3,none⟩)) (len-j) (cap-j) (rs.drop j):=by
 have hc:=h.1.2.1;by_cases e:cap=j
 ·rw[if_pos e];refine⟨⟨⟨by rw[List.length_drop,h.1.1.1],fun hp=>absurd hp (by omega)⟩,by omega,by have:=h.1.2.2.1;omega,fun r hr=>h.1.2.2.2 r (List.mem_of_mem_drop hr)⟩,.inl ⟨_,_,rfl⟩⟩
 ·rw[if_neg e];exact⟨h.1.dropLe j hj,.inl ⟨_,_,rfl⟩⟩
theorem RowsA.take {w:World} {a:Option Addr} {len cap:Nat} {rs:List Rw} (h:RowsA w a len cap rs) (j:Nat) (hj:j<=len):RowsA w a j cap (rs.take j):=by
 have hc:=h.1.2.1;refine⟨⟨⟨by have:=h.1.1.1;rw[List.length_take];omega,fun hp=> ?_⟩,by omega,h.1.2.2.1,fun r hr=>h.1.2.2.2 r (List.mem_of_mem_take hr)⟩,?_⟩
 ·obtain⟨b,off,e,hb,hcell⟩:=h.1.1.2 (by omega);refine⟨b,off,e,hb,fun i hi=> ?_⟩;have:=hcell i (by omega);rw[show (rs.take j).getD i z3=rs.getD i z3 by rw[List.getD_eq_getElem?_getD,List.getD_eq_getElem?_getD,List.getElem?_take_of_lt hi]];exact this
 ·rcases h.2 with q | ⟨q1,q2,q3⟩
  ·exact .inl q
  ·exact .inr ⟨q1,by omega,q3⟩
def CntA (w0:World) (rs:List Rw) (w:World) (e:Ending) (w':World):Prop:=(∃ a' len' cap',e=.returned (.slice a' len' cap')/\RowsA w0 a' len' cap' (cnt rs))/\Below w.heap.size w w'
theorem counted0_any (a:Option Addr) (len cap:Nat) (rs:List Rw) (w0 w:World) (h:RowsIn w0 a len cap rs) (hb0:Below w0.heap.size w0 w):Calls Tryz.prog 61 #[.slice a len cap] w fun e w'=>CntA w0 rs w e w':=by
 have HR:Hid (RowsIn w0 a len cap rs):=h;have HB0:Hid (Below w0.heap.size w0 w):=hb0;have hm:maxLen=9223372036854775807:=rfl;have hcl:len<=cap:=h.2.1;have hcm:cap<=9223372036854775807:=by have:=h.2.2.1;omega
 clear h hb0;go_enter Tryz.func61,Tryz.ntmps61;go_wp2
 go_loopw [7] (fun ui wr=>∃ j:Nat,j<=len/\ui=.int .i64 (j:Int)/\Hid (Below w.heap.size w wr/\∀ i,i<j->noth (rs.getD i z3).2.1=true)) (fun ui _=>len-(intOf ui).toNat)
 case atStart=>exact⟨0,Nat.zero_le _,rfl,Below.refl _ _,fun i hi=>absurd hi (Nat.not_lt_zero _)⟩
 case round =>
  obtain⟨j,hj,rfl,HL⟩:=hrel;by_cases hlt:j<len
  ·obtain⟨b,off,had,hb,hcell⟩:=HR.out.1.2 (by omega);obtain⟨x0,x1,x2⟩:=hcell j hlt;subst had;have hjr:j<rs.length:=by have:=HR.out.1.1;omega
   have htl:=HR.out.2.2.2 _ (getD_memR hjr);have HDR:Hid (RowsA w0 (some ⟨b,off+j*3,none⟩) (len-j) (cap-j) (rs.drop j)):=⟨HR.out.drop j hlt,.inl ⟨_,_,rfl⟩⟩;have HCN:Hid (noth (rs.getD j z3).2.1=false->cnt rs=rs.drop j):=fun hn=>cnt_drop rs j hjr HL.out.2 hn
   have HB1:Hid (Below w0.heap.size w0 wr):=HB0.out.trans (HL.out.1.mono HB0.out.size);replace x0:=(HB1.out.cell (p:=⟨b,off+j*3,none⟩) hb).trans x0;replace x1:=(HB1.out.cell (p:=⟨b,off+j*3+1,none⟩) hb).trans x1;replace x2:=(HB1.out.cell (p:=⟨b,off+j*3+2,none⟩) hb).trans x2;have HIE:Hid (∀ w0,Calls Tryz.prog 64 #[.string (mk (rs.getD j z3).2.1)] w0 fun e w'=>e=.returned (.bool (noth (rs.getD j z3).2.1))/\w0=w'):=fun w0=>isEmpty_any _ w0 (by omega)
   have HBA:Hid (∀ o,Below w.heap.size w (wr.alloc o)):=fun o=>HL.out.1.alloc HL.out.1.size o
   have HNX:Hid (noth (rs.getD j z3).2.1=true->∀ i,i<j+1->noth (rs.getD i z3).2.1=true):=fun hn i hi=>by
    by_cases e:i=j
    ·rw[e];exact hn
    ·exact HL.out.2 i (by omega)
   clear hcell HR htl hjr HL HB1 HB0;generalize (rs.getD j z3).1=rc at *;generalize (rs.getD j z3).2.2=ra at *;generalize (rs.getD j z3).2.1=rt at *;cases hn:noth rt
   ·rw[hn]at HIE;have HCE:Hid (cnt rs=rs.drop j):=HCN.out hn;clear HCN HNX hn;go_wp2_with (go_at_call 64;refine(HIE.out _).mono ?_;rintro e w' ⟨rfl,rfl⟩);go_ret;refine⟨⟨_,_,_,rfl,?_⟩,HBA.out _⟩;rw[HCE.out];have:=HDR.out
    first | exact this | simpa using this
   ·rw[hn]at HIE;have HNE:=HNX.out hn;replace HNE:Hid (∀ i,i<j+1->noth (rs.getD i z3).2.1=true):=HNE;clear HCN HNX hn HDR;go_wp2_with (go_at_call 64;refine(HIE.out _).mono ?_;rintro e w' ⟨rfl,rfl⟩);go_roundw
    case rel=>exact⟨j+1,by omega,by go_num,HBA.out _,HNE.out⟩
    case measure=>simp[intOf];omega
  ·have HCE:Hid (cnt rs=[]):=cnt_all rs (fun i hi=>HL.out.2 i (by have:=HR.out.1.1;omega));have HBB:Hid (Below w.heap.size w wr):=HL.out.1;clear HL HR;go_wp2;go_ret;exact⟨⟨none,0,0,rfl,by rw[HCE.out];exact RowsA.nil _⟩,HBB.out⟩
end Tre
namespace Tre
open Utf Rws Pln Flw
open Go.RowKit
set_option maxHeartbeats 2000000
variable {w:World}
theorem en_bdT (l:Ln):True/\(enT l).text.length<=l.length:=by
 refine⟨trivial,?_⟩;unfold enT ckT;have h1:=rd_olen l;have h3:=cutT_len l false;have h4:=fin_le l false;split
 ·split
  ·exact h1
  ·split
   ·show (if knd (cutT l false)=1 then []else cutT l false).length<=_;split
    ·exact Nat.zero_le _
    ·omega
   ·exact Nat.zero_le _
 ·exact Nat.zero_le _
theorem item_no (ar:Int) (c:Int) (x:Ln) (z:Int) (a:Option Addr) (len cap:Nat) (hx:x.length<=140737488351232) (hi:isIt x=false) :
  Calls Tryz.prog 67 #[.int .i64 ar,rV c x z,.slice a len cap] w fun e w'=>e=.returned (.tuple #[.slice none 0 0,.agg #[.int .i64 3,.int .i64 z]])/\Below w.heap.size w w':=by
 have HFO:Hid (∀ w0,Calls Tryz.prog 62 #[.int .i64 3,.agg #[.int .i64 c,.string (mk x),.int .i64 z]] w0 fun e w'=>e=.returned (.agg #[.int .i64 3,.int .i64 z])/\Below w0.heap.size w0 w'):=fun w0=>faultOf_any 3 c x z w0
 have HI:Hid (∀ w0,Calls Tryz.prog 92 #[.string (mk x)] w0 fun e w'=>e=.returned (.tuple #[.string (mk (itR x)),.int .i64 (itN x:Int),.bool (isIt x)])/\w0=w'):=fun w0=>item0_any x w0 (by omega)
 rw[hi]at HI;generalize itR x=aR at *;generalize itN x=aN at *;have N2:Hid (_/\_/\_):=two_new w #[.int .i64 c,.string (mk x),.int .i64 z] #[.int .i64 0,.int .i64 0] 52 32;go_enter Tryz.func67,Tryz.ntmps67;go_wp2_with fail;change Calls _ _ _ ((w.alloc (.cells #[.int .i64 c,.string (mk x),.int .i64 z] 52)).alloc (.cells #[.int .i64 0,.int .i64 0] 32)) _;generalize (w.alloc (.cells #[.int .i64 c,.string (mk x),.int .i64 z] 52)).alloc (.cells #[.int .i64 0,.int .i64 0] 32)=W at N2 |-;obtain⟨K1,hK1⟩:∃ K,K=w.heap.size+1:=⟨_,rfl⟩;obtain⟨K0,hK0⟩:∃ K,K=w.heap.size:=⟨_,rfl⟩
 have HB:Hid (Below w.heap.size w W/\Bx W K0 #[.int .i64 c,.string (mk x),.int .i64 z] 52/\Bx W K1 #[.int .i64 0,.int .i64 0] 32):=by
  rw[hK0,hK1];exact N2.out
 rw[<-hK1,<-hK0];have hw1:w.heap.size<=K1:=by omega
 have h01:K0≠K1:=by omega
 have h10:K1≠K0:=by omega
 clear N2 hK0 hK1;refine(HI.out W).mono ?_;rintro e w' ⟨rfl,rfl⟩;obtain⟨r0,r1,r2⟩:=HB.out.2.1.c3;go_wp2_with fail;refine(HFO.out _).mono ?_;rintro e w9 ⟨rfl,H9⟩;have HB9:Hid (Below w.heap.size w w9/\Bx w9 K1 #[.int .i64 0,.int .i64 0] 32):=⟨HB.out.1.trans (H9.mono HB.out.1.size),HB.out.2.2.later H9⟩;clear H9;obtain⟨c0,c1⟩:=HB9.out.2.c2;have z0:=HB9.out.2.fz 0;have z1:=HB9.out.2.fz 1
 have HF:Hid (Below w.heap.size w ((w9.setCell ⟨K1,0,none⟩ (.int .i64 3)).setCell ⟨K1,1,none⟩ (.int .i64 z))/\Bx ((w9.setCell ⟨K1,0,none⟩ (.int .i64 3)).setCell ⟨K1,1,none⟩ (.int .i64 z)) K1 #[.int .i64 3,.int .i64 z] 32) :=
  ⟨(HB9.out.1.setCell (p:=⟨K1,0,none⟩) hw1 _).setCell (p:=⟨K1,1,none⟩) hw1 _,(HB9.out.2.set 0 _).set 1 _⟩
 go_wp2;change bodyPost _ _ _ _ _ ((w9.setCell ⟨K1,0,none⟩ (.int .i64 3)).setCell ⟨K1,1,none⟩ (.int .i64 z));generalize (w9.setCell ⟨K1,0,none⟩ (.int .i64 3)).setCell ⟨K1,1,none⟩ (.int .i64 z)=WF at HF |-;obtain⟨j0,j1⟩:=HF.out.2.c2;exact bodyPost_ret (v:=.tuple #[.slice none 0 0,.agg #[.int .i64 3,.int .i64 z]]) (by simp[results,Tryz.results67,go_sem,j0,j1]) rfl ⟨rfl,HF.out.1⟩
theorem entry_er (E ar:Int) (c:Int) (x:Ln) (z:Int) (a:Option Addr) (len cap:Nat) (hx:x.length<=140737488351232) (hT:Tb w) (hh:isEn x=false/\E=3\/isEn x=true/\256<(enT x).text.length/\E=5) :
  Calls Tryz.prog 69 #[.int .i64 ar,rV c x z,.slice a len cap] w fun e w'=>e=.returned (.tuple #[.slice none 0 0,.agg #[.int .i64 E,.int .i64 z]])/\Below w.heap.size w w':=by
 have HFO:Hid (∀ k w0,k=E->Calls Tryz.prog 62 #[.int .i64 k,.agg #[.int .i64 c,.string (mk x),.int .i64 z]] w0 fun e w'=>e=.returned (.agg #[.int .i64 E,.int .i64 z])/\Below w0.heap.size w0 w'):=fun k w0 h=>by subst h;exact faultOf_any k c x z w0
 have HE:Hid (∀ w0,Tb w0->Calls Tryz.prog 95 #[.string (mk x)] w0 fun e w'=>e=.returned (.tuple #[.agg #[.int .i64 (enT x).kind,.string (mk (enT x).text),.string ⟨#[]⟩,.slice none 0 0],.string (mk (enR x)),.int .i64 (enN x:Int),.bool (isEn x)])/\Below w0.heap.size w0 w'):=fun w0 h=>entry0_any x hx h
 have HTb:Hid (Tb w):=hT;clear hT;rcases hh with ⟨hi,hE⟩ | ⟨hi,hlong,hE⟩
 all_goals
  rw[hi]at HE;have hsz:=mk_size (enT x).text;have hbd:=(en_bdT x).2;generalize (enT x).kind=ck at *;generalize (enT x).text=ct at *;generalize enR x=eR at *;generalize enN x=eN at *;have N2:Hid (_/\_/\_):=two_new w #[.int .i64 c,.string (mk x),.int .i64 z] #[.int .i64 0,.int .i64 0] 52 32;go_enter Tryz.func69,Tryz.ntmps69;go_wp2_with fail;change Calls _ _ _ ((w.alloc (.cells #[.int .i64 c,.string (mk x),.int .i64 z] 52)).alloc (.cells #[.int .i64 0,.int .i64 0] 32)) _;generalize (w.alloc (.cells #[.int .i64 c,.string (mk x),.int .i64 z] 52)).alloc (.cells #[.int .i64 0,.int .i64 0] 32)=W at N2 |-;obtain⟨K1,hK1⟩:∃ K,K=w.heap.size+1:=⟨_,rfl⟩;obtain⟨K0,hK0⟩:∃ K,K=w.heap.size:=⟨_,rfl⟩
  have HB:Hid (Below w.heap.size w W/\Bx W K0 #[.int .i64 c,.string (mk x),.int .i64 z] 52/\Bx W K1 #[.int .i64 0,.int .i64 0] 32):=by
   rw[hK0,hK1];exact N2.out
  rw[<-hK1,<-hK0];have hw1:w.heap.size<=K1:=by omega
  have h01:K0≠K1:=by omega
  have h10:K1≠K0:=by omega
  clear N2 hK0 hK1;refine(HE.out W (HTb.out.later HB.out.1)).mono ?_;rintro e w3 ⟨rfl,H3⟩
  have H4:Hid (∀ w4,w4=w3.alloc (.cells #[.int .i64 ck,.string (mk ct),.string ⟨#[]⟩,.slice none 0 0] 35)->(Below w.heap.size w w4/\Bx w4 K0 #[.int .i64 c,.string (mk x),.int .i64 z] 52/\Bx w4 K1 #[.int .i64 0,.int .i64 0] 32)/\Bx w4 w3.heap.size #[.int .i64 ck,.string (mk ct),.string ⟨#[]⟩,.slice none 0 0] 35):=fun w4 e=>by
   subst e;have b:=H3.trans ((below_alloc w3 (.cells #[.int .i64 ck,.string (mk ct),.string ⟨#[]⟩,.slice none 0 0] 35)).mono H3.size);exact⟨⟨HB.out.1.trans (b.mono HB.out.1.size),HB.out.2.1.later b,HB.out.2.2.later b⟩,Bx.new w3 _ _⟩
  clear H3 HB;go_upto_region 2 with fail
  have N4:=H4.out _ rfl;clear H4;generalize w3.alloc (.cells #[.int .i64 ck,.string (mk ct),.string ⟨#[]⟩,.slice none 0 0] 35)=w4 at N4 |-;generalize w3.heap.size=KK at *;have HB4:Hid (Below w.heap.size w w4/\Bx w4 K0 #[.int .i64 c,.string (mk x),.int .i64 z] 52/\Bx w4 K1 #[.int .i64 0,.int .i64 0] 32):=N4.1;have t1:w4.cell? ⟨KK,1,none⟩=some (.string (mk ct)):=N4.2.cell 1;clear N4;obtain⟨r0,r1,r2⟩:=HB4.out.2.1.c3;go_wp2_with fail;refine(HFO.out _ _ hE.symm).mono ?_;rintro e w9 ⟨rfl,H9⟩;clear hE;have HB9:Hid (Below w.heap.size w w9/\Bx w9 K1 #[.int .i64 0,.int .i64 0] 32):=⟨HB4.out.1.trans (H9.mono HB4.out.1.size),HB4.out.2.2.later H9⟩;clear H9;obtain⟨c0,c1⟩:=HB9.out.2.c2;have z0:=HB9.out.2.fz 0;have z1:=HB9.out.2.fz 1
  have HF:Hid (Below w.heap.size w ((w9.setCell ⟨K1,0,none⟩ (.int .i64 E)).setCell ⟨K1,1,none⟩ (.int .i64 z))/\Bx ((w9.setCell ⟨K1,0,none⟩ (.int .i64 E)).setCell ⟨K1,1,none⟩ (.int .i64 z)) K1 #[.int .i64 E,.int .i64 z] 32) :=
   ⟨(HB9.out.1.setCell (p:=⟨K1,0,none⟩) hw1 _).setCell (p:=⟨K1,1,none⟩) hw1 _,(HB9.out.2.set 0 _).set 1 _⟩
  go_wp2;change bodyPost _ _ _ _ _ ((w9.setCell ⟨K1,0,none⟩ (.int .i64 E)).setCell ⟨K1,1,none⟩ (.int .i64 z));generalize (w9.setCell ⟨K1,0,none⟩ (.int .i64 E)).setCell ⟨K1,1,none⟩ (.int .i64 z)=WF at HF |-;obtain⟨j0,j1⟩:=HF.out.2.c2;exact bodyPost_ret (v:=.tuple #[.slice none 0 0,.agg #[.int .i64 E,.int .i64 z]]) (by simp[results,Tryz.results69,go_sem,j0,j1]) rfl ⟨rfl,HF.out.1⟩
end Tre
namespace Tre
open Utf Rws Pln Flw
open Go.RowKit
set_option maxHeartbeats 2000000
variable {w:World}
def PaD (d:Nat) (ks:List Tr) (y z:Int) (w:World) (e:Ending) (w':World):Prop:=∃ B cs,e=.returned (.tuple #[.slice (some ⟨B,0,none⟩) ks.length ks.length,.agg #[.int .i64 y,.int .i64 z]])/\w.heap.size<=B/\Bx w' B cs.toArray 35/\Kd w.heap.size w' d cs ks/\Below w.heap.size w w'
theorem entry_ok (d:Nat) (hd1:1<=d) (ar:Int) (c:Int) (x:Ln) (z:Int) (a:Option Addr) (len cap:Nat) (hx:x.length<=140737488351232) (hT:Tb w) (hi:isEn x=true) (hsh:(enT x).text.length<=256) (R:Tr × Int × Int)
  (HME:Hid (∀ w0,Below w.heap.size w w0->Calls Tryz.prog 70 #[.int .i64 ar,.agg #[.int .i64 c,.string (mk x),.int .i64 z],.string (mk (enR x)),.slice a len cap] w0 fun e w'=>TfD d R w0 e w')) :
  Calls Tryz.prog 69 #[.int .i64 ar,rV c x z,.slice a len cap] w fun e w'=>PaD d [⟨(enT x).kind,(enT x).text,[],[]⟩,R.1] R.2.1 R.2.2 w e w':=by
 have HE:Hid (∀ w0,Tb w0->Calls Tryz.prog 95 #[.string (mk x)] w0 fun e w'=>e=.returned (.tuple #[.agg #[.int .i64 (enT x).kind,.string (mk (enT x).text),.string ⟨#[]⟩,.slice none 0 0],.string (mk (enR x)),.int .i64 (enN x:Int),.bool (isEn x)])/\Below w0.heap.size w0 w'):=fun w0 h=>entry0_any x hx h
 have hbd:=en_bd x;have hsz:=mk_size (enT x).text;have HTb:Hid (Tb w):=hT;clear hT;rw[hi]at HE;generalize (enT x).kind=ck at *;generalize (enT x).text=ct at *;generalize enR x=eR at *;generalize enN x=eN at *;have N2:Hid (_/\_/\_):=two_new w #[.int .i64 c,.string (mk x),.int .i64 z] #[.int .i64 0,.int .i64 0] 52 32;go_enter Tryz.func69,Tryz.ntmps69;go_wp2_with fail;change Calls _ _ _ ((w.alloc (.cells #[.int .i64 c,.string (mk x),.int .i64 z] 52)).alloc (.cells #[.int .i64 0,.int .i64 0] 32)) _;generalize (w.alloc (.cells #[.int .i64 c,.string (mk x),.int .i64 z] 52)).alloc (.cells #[.int .i64 0,.int .i64 0] 32)=W at N2 |-;obtain⟨K1,hK1⟩:∃ K,K=w.heap.size+1:=⟨_,rfl⟩;obtain⟨K0,hK0⟩:∃ K,K=w.heap.size:=⟨_,rfl⟩
 have HB:Hid (Below w.heap.size w W/\Bx W K0 #[.int .i64 c,.string (mk x),.int .i64 z] 52/\Bx W K1 #[.int .i64 0,.int .i64 0] 32):=by
  rw[hK0,hK1];exact N2.out
 rw[<-hK1,<-hK0];have hw1:w.heap.size<=K1:=by omega
 have h01:K0≠K1:=by omega
 have h10:K1≠K0:=by omega
 clear N2 hK0 hK1;refine(HE.out W (HTb.out.later HB.out.1)).mono ?_;rintro e w3 ⟨rfl,H3⟩
 have H4:Hid (∀ w4,w4=w3.alloc (.cells #[.int .i64 ck,.string (mk ct),.string ⟨#[]⟩,.slice none 0 0] 35)->(Below w.heap.size w w4/\Bx w4 K0 #[.int .i64 c,.string (mk x),.int .i64 z] 52/\Bx w4 K1 #[.int .i64 0,.int .i64 0] 32)/\Bx w4 w3.heap.size #[.int .i64 ck,.string (mk ct),.string ⟨#[]⟩,.slice none 0 0] 35):=fun w4 e=>by
  subst e;have b:=H3.trans ((below_alloc w3 (.cells #[.int .i64 ck,.string (mk ct),.string ⟨#[]⟩,.slice none 0 0] 35)).mono H3.size);exact⟨⟨HB.out.1.trans (b.mono HB.out.1.size),HB.out.2.1.later b,HB.out.2.2.later b⟩,Bx.new w3 _ _⟩
 clear H3 HB;go_upto_region 2 with fail
 have N4:=H4.out _ rfl;clear H4;generalize w3.alloc (.cells #[.int .i64 ck,.string (mk ct),.string ⟨#[]⟩,.slice none 0 0] 35)=w4 at N4 |-;generalize w3.heap.size=KK at *;have HB4:Hid (Below w.heap.size w w4/\Bx w4 K0 #[.int .i64 c,.string (mk x),.int .i64 z] 52/\Bx w4 K1 #[.int .i64 0,.int .i64 0] 32):=N4.1;have t0:w4.cell? ⟨KK,0,none⟩=some (.int .i64 ck):=N4.2.cell 0;have t2:w4.cell? ⟨KK,2,none⟩=some (.string ⟨#[]⟩):=N4.2.cell 2;have t3:w4.cell? ⟨KK,3,none⟩=some (.slice none 0 0):=N4.2.cell 3;have t1:w4.cell? ⟨KK,1,none⟩=some (.string (mk ct)):=N4.2.cell 1;have HK4:Hid (Bx w4 KK #[.int .i64 ck,.string (mk ct),.string ⟨#[]⟩,.slice none 0 0] 35):=N4.2;clear N4;obtain⟨r0,r1,r2⟩:=HB4.out.2.1.c3;go_wp2_with fail;refine(HME.out w4 HB4.out.1).mono ?_;rintro e w8 ⟨v,rfl,ht,hb8⟩;obtain⟨k2,x2,a2,ad2,len2,cap2,rfl⟩:=ht.cells;obtain⟨R1,R2,R3⟩:=R;have HK8:Hid (Bx w8 KK #[.int .i64 ck,.string (mk ct),.string ⟨#[]⟩,.slice none 0 0] 35):=HK4.out.later hb8;have HB8:Hid (Below w.heap.size w w8/\Bx w8 K1 #[.int .i64 0,.int .i64 0] 32):=⟨HB4.out.1.trans (hb8.mono HB4.out.1.size),HB4.out.2.2.later hb8⟩;clear t0 t1 t2 t3 r0 r1 r2
 have H9:Hid (∀ w9,w9=(w8.alloc (.cells #[.int .i64 k2,.string x2,.string a2,.slice ad2 len2 cap2] 35)).alloc (.cells #[.int .i64 R2,.int .i64 R3] 32)->(Below w8.heap.size w8 w9/\Bx w9 w8.heap.size #[.int .i64 k2,.string x2,.string a2,.slice ad2 len2 cap2] 35/\Bx w9 (w8.heap.size+1) #[.int .i64 R2,.int .i64 R3] 32)):=fun w9 e=>by
  subst e;exact two_new w8 _ _ _ _
 go_upto_region 7 with fail
 have N9:=H9.out _ rfl;clear H9;change Code.wp _ _ _ _ ((w8.alloc (.cells #[.int .i64 k2,.string x2,.string a2,.slice ad2 len2 cap2] 35)).alloc (.cells #[.int .i64 R2,.int .i64 R3] 32));generalize (w8.alloc (.cells #[.int .i64 k2,.string x2,.string a2,.slice ad2 len2 cap2] 35)).alloc (.cells #[.int .i64 R2,.int .i64 R3] 32)=w9 at N9 |-;obtain⟨K3,hK3⟩:∃ K,K=w8.heap.size+1:=⟨_,rfl⟩;obtain⟨K2,hK2⟩:∃ K,K=w8.heap.size:=⟨_,rfl⟩;rw[<-hK3,<-hK2]
 have HX:Hid (Bx w9 K2 #[.int .i64 k2,.string x2,.string a2,.slice ad2 len2 cap2] 35/\Bx w9 K3 #[.int .i64 R2,.int .i64 R3] 32/\Bx w9 KK #[.int .i64 ck,.string (mk ct),.string ⟨#[]⟩,.slice none 0 0] 35/\Bx w9 K1 #[.int .i64 0,.int .i64 0] 32/\Below w.heap.size w w9/\TrP w4.heap.size w9 d (.agg #[.int .i64 k2,.string x2,.string a2,.slice ad2 len2 cap2]) R1):=by
  rw[hK2,hK3];exact⟨N9.2.1,N9.2.2,HK8.out.later N9.1,HB8.out.2.later N9.1,HB8.out.1.trans (N9.1.mono HB8.out.1.size),TrP.later ht N9.1⟩
 have hK1W:K1<w4.heap.size:=HB4.out.2.2.lt;have hWs:w.heap.size<=w4.heap.size:=HB4.out.1.size;clear N9 HK8 HB8 hK2 hK3 ht hb8 HK4 HB4;obtain⟨p0,p1,p2,p3⟩:=HX.out.1.c4;obtain⟨q0,q1⟩:=HX.out.2.1.c2;obtain⟨t0,t1,t2,t3⟩:=HX.out.2.2.1.c4;obtain⟨c0,c1⟩:=HX.out.2.2.2.1.c2;have z0:=HX.out.2.2.2.1.fz 0;have z1:=HX.out.2.2.2.1.fz 1;have BA:=below_alloc w9 (.cells #[.int .i64 ck,.string (mk ct),.string ⟨#[]⟩,.slice none 0 0,.int .i64 k2,.string x2,.string a2,.slice ad2 len2 cap2] 35);have XA:=HX.out.2.2.2.1.later BA;have XB:=HX.out.2.1.later BA;have u0:(w9.alloc (.cells #[.int .i64 ck,.string (mk ct),.string ⟨#[]⟩,.slice none 0 0,.int .i64 k2,.string x2,.string a2,.slice ad2 len2 cap2] 35)).cell? ⟨K1,0,none⟩=some (.int .i64 0):=XA.cell 0;have u1:(w9.alloc (.cells #[.int .i64 ck,.string (mk ct),.string ⟨#[]⟩,.slice none 0 0,.int .i64 k2,.string x2,.string a2,.slice ad2 len2 cap2] 35)).frozen? ⟨K1,0,none⟩=false:=XA.fz 0;have u2:(w9.alloc (.cells #[.int .i64 ck,.string (mk ct),.string ⟨#[]⟩,.slice none 0 0,.int .i64 k2,.string x2,.string a2,.slice ad2 len2 cap2] 35)).cell? ⟨K1,1,none⟩=some (.int .i64 0):=XA.cell 1;have u3:(w9.alloc (.cells #[.int .i64 ck,.string (mk ct),.string ⟨#[]⟩,.slice none 0 0,.int .i64 k2,.string x2,.string a2,.slice ad2 len2 cap2] 35)).frozen? ⟨K1,1,none⟩=false:=XA.fz 1;obtain⟨u4,u5⟩:=XB.c2;have u6:(w9.alloc (.cells #[.int .i64 ck,.string (mk ct),.string ⟨#[]⟩,.slice none 0 0,.int .i64 k2,.string x2,.string a2,.slice ad2 len2 cap2] 35)).drew.cell? ⟨K1,0,none⟩=some (.int .i64 0):=XA.cell 0;have u7:(w9.alloc (.cells #[.int .i64 ck,.string (mk ct),.string ⟨#[]⟩,.slice none 0 0,.int .i64 k2,.string x2,.string a2,.slice ad2 len2 cap2] 35)).drew.frozen? ⟨K1,0,none⟩=false:=XA.fz 0;have u8:(w9.alloc (.cells #[.int .i64 ck,.string (mk ct),.string ⟨#[]⟩,.slice none 0 0,.int .i64 k2,.string x2,.string a2,.slice ad2 len2 cap2] 35)).drew.cell? ⟨K1,1,none⟩=some (.int .i64 0):=XA.cell 1;have u9:(w9.alloc (.cells #[.int .i64 ck,.string (mk ct),.string ⟨#[]⟩,.slice none 0 0,.int .i64 k2,.string x2,.string a2,.slice ad2 len2 cap2] 35)).drew.frozen? ⟨K1,1,none⟩=false:=XA.fz 1;obtain⟨u10,u11⟩:=XB.c2;clear BA XA XB
 have HF:Hid (Below w.heap.size w (((w9.alloc (.cells #[.int .i64 ck,.string (mk ct),.string ⟨#[]⟩,.slice none 0 0,.int .i64 k2,.string x2,.string a2,.slice ad2 len2 cap2] 35)).setCell ⟨K1,0,none⟩ (.int .i64 R2)).setCell ⟨K1,1,none⟩ (.int .i64 R3))/\Bx (((w9.alloc (.cells #[.int .i64 ck,.string (mk ct),.string ⟨#[]⟩,.slice none 0 0,.int .i64 k2,.string x2,.string a2,.slice ad2 len2 cap2] 35)).setCell ⟨K1,0,none⟩ (.int .i64 R2)).setCell ⟨K1,1,none⟩ (.int .i64 R3)) w9.heap.size #[.int .i64 ck,.string (mk ct),.string ⟨#[]⟩,.slice none 0 0,.int .i64 k2,.string x2,.string a2,.slice ad2 len2 cap2] 35/\Bx (((w9.alloc (.cells #[.int .i64 ck,.string (mk ct),.string ⟨#[]⟩,.slice none 0 0,.int .i64 k2,.string x2,.string a2,.slice ad2 len2 cap2] 35)).setCell ⟨K1,0,none⟩ (.int .i64 R2)).setCell ⟨K1,1,none⟩ (.int .i64 R3)) K1 #[.int .i64 R2,.int .i64 R3] 32/\Kd w.heap.size (((w9.alloc (.cells #[.int .i64 ck,.string (mk ct),.string ⟨#[]⟩,.slice none 0 0,.int .i64 k2,.string x2,.string a2,.slice ad2 len2 cap2] 35)).setCell ⟨K1,0,none⟩ (.int .i64 R2)).setCell ⟨K1,1,none⟩ (.int .i64 R3)) d [.int .i64 ck,.string (mk ct),.string ⟨#[]⟩,.slice none 0 0,.int .i64 k2,.string x2,.string a2,.slice ad2 len2 cap2] [⟨ck,ct,[],[]⟩,R1]):=by
  have BA:=below_alloc w9 (.cells #[.int .i64 ck,.string (mk ct),.string ⟨#[]⟩,.slice none 0 0,.int .i64 k2,.string x2,.string a2,.slice ad2 len2 cap2] 35);have hn:w9.heap.size≠K1:=by have:=HX.out.2.2.2.1.lt;omega
  have h1:=HX.out.2.2.2.2.1;have ht9:TrP w4.heap.size (((w9.alloc (.cells #[.int .i64 ck,.string (mk ct),.string ⟨#[]⟩,.slice none 0 0,.int .i64 k2,.string x2,.string a2,.slice ad2 len2 cap2] 35)).setCell ⟨K1,0,none⟩ (.int .i64 R2)).setCell ⟨K1,1,none⟩ (.int .i64 R3)) d (.agg #[.int .i64 k2,.string x2,.string a2,.slice ad2 len2 cap2]) R1:=((HX.out.2.2.2.2.2.later BA).set hK1W).set hK1W;refine⟨((h1.trans (BA.mono h1.size)).setCell (p:=⟨K1,0,none⟩) hw1 _).setCell (p:=⟨K1,1,none⟩) hw1 _,((Bx.new w9 _ _).other hn _ _).other hn _ _,((HX.out.2.2.2.1.later BA).set 0 _).set 1 _,?_⟩;exact Kd.app (ks:=[⟨ck,ct,[],[]⟩]) (js:=[R1]) (Kd.one (TrP.more (TrP.leaf ck ct [] ⟨by omega,by omega⟩ (by omega) (by simp) 0) hd1)) (Kd.one (TrP.mono hWs ht9))
 have hWB:w.heap.size<=w9.heap.size:=HX.out.2.2.2.2.1.size;clear HX;go_region;go_wp2;change bodyPost _ _ _ _ _ (((w9.alloc (.cells #[.int .i64 ck,.string (mk ct),.string ⟨#[]⟩,.slice none 0 0,.int .i64 k2,.string x2,.string a2,.slice ad2 len2 cap2] 35)).setCell ⟨K1,0,none⟩ (.int .i64 R2)).setCell ⟨K1,1,none⟩ (.int .i64 R3)).drew;generalize ((w9.alloc (.cells #[.int .i64 ck,.string (mk ct),.string ⟨#[]⟩,.slice none 0 0,.int .i64 k2,.string x2,.string a2,.slice ad2 len2 cap2] 35)).setCell ⟨K1,0,none⟩ (.int .i64 R2)).setCell ⟨K1,1,none⟩ (.int .i64 R3)=WW at HF |-;obtain⟨j0,j1⟩:=HF.out.2.2.1.c2;refine bodyPost_ret (v:=.tuple #[.slice (some ⟨w9.heap.size,0,none⟩) 2 2,.agg #[.int .i64 R2,.int .i64 R3]]) (by simp[results,Tryz.results69,go_sem,j0,j1]) rfl ?_;exact⟨w9.heap.size,[.int .i64 ck,.string (mk ct),.string ⟨#[]⟩,.slice none 0 0,.int .i64 k2,.string x2,.string a2,.slice ad2 len2 cap2],rfl,hWB,HF.out.2.1.drew 1,HF.out.2.2.2.later ((Below.refl _ _).drew),HF.out.1.drew⟩
end Tre
namespace Tre
open Utf Rws Pln Flw
open Go.RowKit
open Blk (Rw RwAt z3)
set_option maxHeartbeats 8000000
def PtD (d:Nat) (q:List Tr × Int × Int) (w:World) (e:Ending) (w':World):Prop :=
 (q.2.1≠0->∃ ad m n,e=.returned (.tuple #[.slice ad m n,fV q.2.1 q.2.2]))/\(q.2.1=0->PaD d q.1 0 q.2.2 w e w'/\q.1.length<=2)/\Below w.heap.size w w'
def KiRes (d:Nat) (q:List Tr × Int × Int) (w:World) (e:Ending) (w':World):Prop :=
 (q.2.1≠0->e=.returned (.tuple #[.slice none 0 0,fV q.2.1 q.2.2])) /\
 (q.2.1=0->∃ v n xs,e=.returned (.tuple #[v,fV q.2.1 q.2.2])/\w'.ownsRow w.heap.size 35 4 v n xs/\n=q.1.length/\Kd w.heap.size w' d xs q.1)/\Below w.heap.size w w'
abbrev rA (r:Rw):Array Value:=#[.int .i64 r.1,.string (mk r.2.1),.int .i64 r.2.2]
structure Ki (w0 w:World) (d C K0 K1 KR:Nat) (fc:Array Value) (r:Rw) (v:Value) (m:Nat) (xs:List Value) (ks:List Tr):Prop where
 bl:Below w0.heap.size w0 w
 k0:Bx w K0 fc 52
 k1:Bx w K1 zF 32
 kr:Bx w KR (rA r) 52
 own:w.ownsRow C 35 4 v m xs
 kd:KdQ (Out C v) w d xs ks
 h0:w0.heap.size<=K0
 h1:K0<K1
 h2:K1<KR
 h3:KR<C
 hc:C<=w.heap.size
variable {w0 w w1:World} {d C K0 K1 KR m:Nat} {fc:Array Value} {r:Rw} {v:Value} {xs:List Value} {ks:List Tr}
theorem Ki.later (h:Ki w0 w d C K0 K1 KR fc r v m xs ks) (hb:Below w.heap.size w w1):Ki w0 w1 d C K0 K1 KR fc r v m xs ks :=
 ⟨h.bl.trans (hb.mono h.bl.size),h.k0.later hb,h.k1.later hb,h.kr.later hb,own_keep h.own (fun j _ hj=>hb.block j hj),h.kd.later hb,h.h0,h.h1,h.h2,h.h3,Nat.le_trans h.hc hb.size⟩
theorem Ki.more (h:Ki w0 w d C K0 K1 KR fc r v m xs ks) {v':Value} {m':Nat} {ys:List Value} {js:List Tr} (hown:w1.ownsRow C 35 4 v' m' (xs++ys)) (hg:w.grownBy w1 v.ownBlock) (hat:v'.ownBlock=v.ownBlock\/v'.ownBlock=some w.heap.size)
  (hk:KdQ (Out C v) w d ys js):Ki w0 w1 d C K0 K1 KR fc r v' m' (xs++ys) (ks++js):=by
 have h0:=h.h0;have h1:=h.h1;have h2:=h.h2;have h3:=h.h3;have hfs:=h.bl.size;have hrow:∀ k,v.ownBlock=some k->C<=k:=fun k hk=>(own_blk h.own hk).1
 have hkeep:∀ j,j<w.heap.size->(∀ k,v.ownBlock=some k->j≠k)->w1.heap[j]?=w.heap[j]?:=fun j hj hne=>hg.block j hj (fun e=>hne j e.symm rfl)
 have hlow:∀ j,j<C->j<w.heap.size->w1.heap[j]?=w.heap[j]?:=fun j hj hw=>hkeep j hw (fun k hk=>by have:=hrow k hk;omega)
 have hl0:=h.k0.lt;have hl1:=h.k1.lt;have hlr:=h.kr.lt;refine⟨⟨hg.os.trans h.bl.os,hg.tape.trans h.bl.tape,hg.output.trans h.bl.output,Nat.le_trans hfs hg.size,fun j hj=>(hlow j (by omega) (by omega)).trans (h.bl.block j hj)⟩,(hlow K0 (by omega) hl0).trans h.k0,(hlow K1 (by omega) hl1).trans h.k1,(hlow KR (by omega) hlr).trans h.kr,hown,?_,h0,h1,h2,h3,Nat.le_trans h.hc hg.size⟩;have k2:KdQ (fun j=>Out C v j/\j<w.heap.size) w d (xs++ys) (ks++js):=(h.kd.app hk).wide (fun j a c=>⟨a,c⟩);refine(k2.keep hg.size (fun j a _=>hkeep j a.2 a.1.2)).wide (fun j a _=>⟨a.1.1,fun k hk=> ?_⟩);rcases hat with e | e
 ·rw[e]at hk;exact a.1.2 k hk
 ·rw[e]at hk;cases hk;exact Nat.ne_of_lt a.2
theorem ki_row (h:Ki w0 w d C K0 K1 KR fc r v m xs ks) (q:Rw):Ki w0 (((w.setCell ⟨KR,0,none⟩ (.int .i64 q.1)).setCell ⟨KR,1,none⟩ (.string (mk q.2.1))).setCell ⟨KR,2,none⟩ (.int .i64 q.2.2)) d C K0 K1 KR fc q v m xs ks:=by
 have h0:=h.h0;have h1:=h.h1;have h2:=h.h2;have h3:=h.h3
 have hk:∀ j,j≠KR->(((w.setCell ⟨KR,0,none⟩ (.int .i64 q.1)).setCell ⟨KR,1,none⟩ (.string (mk q.2.1))).setCell ⟨KR,2,none⟩ (.int .i64 q.2.2)).heap[j]?=w.heap[j]?:=fun j hj=>by
  rw[Below.heap_setCell _ _ _ _ hj,Below.heap_setCell _ _ _ _ hj,Below.heap_setCell _ _ _ _ hj]
 have hw:w0.heap.size<=KR:=by omega
 refine⟨((h.bl.setCell (p:=⟨KR,0,none⟩) hw _).setCell (p:=⟨KR,1,none⟩) hw _).setCell (p:=⟨KR,2,none⟩) hw _,(hk K0 (by omega)).trans h.k0,(hk K1 (by omega)).trans h.k1,((h.kr.set 0 _).set 1 _).set 2 _,own_keep h.own (fun j a _=>hk j (by omega)),h.kd.keep (by simp[World.setCell]) (fun j a _=>hk j (by have:=a.1;omega)),h0,h1,h2,h3,by simp only[World.size_setCell];exact h.hc⟩
theorem Ki.out (h:Ki w0 w d C K0 K1 KR fc r v m xs ks) (x y:Value):Below w0.heap.size w0 ((w.setCell ⟨K1,0,none⟩ x).setCell ⟨K1,1,none⟩ y)/\Bx ((w.setCell ⟨K1,0,none⟩ x).setCell ⟨K1,1,none⟩ y) K1 #[x,y] 32 /\
  ((w.setCell ⟨K1,0,none⟩ x).setCell ⟨K1,1,none⟩ y).ownsRow w0.heap.size 35 4 v m xs/\Kd w0.heap.size ((w.setCell ⟨K1,0,none⟩ x).setCell ⟨K1,1,none⟩ y) d xs ks:=by
 have h0:=h.h0;have h1:=h.h1;have h2:=h.h2;have h3:=h.h3;have hw:w0.heap.size<=K1:=by omega
 have hk:∀ j,C<=j->j<w.heap.size->((w.setCell ⟨K1,0,none⟩ x).setCell ⟨K1,1,none⟩ y).heap[j]?=w.heap[j]?:=fun j hj _=>by
  rw[Below.heap_setCell _ _ _ _ (fun e=>by simp only at e;omega),Below.heap_setCell _ _ _ _ (fun e=>by simp only at e;omega)]
 exact⟨(h.bl.setCell (p:=⟨K1,0,none⟩) hw _).setCell (p:=⟨K1,1,none⟩) hw _,(h.k1.set 0 _).set 1 _,own_down (own_keep h.own hk) (by omega),(h.kd.keep (by simp[World.setCell]) (fun j a c=>hk j a.1 c)).wide (fun j a _=>by have:=a.1;omega)⟩
theorem wp_then2 {P:Program} {cd:Code} {Q:Exit->Go.Act->World->Prop} {a:Go.Act} {w:World} (F:Nat->Nat->Go.Act) (I:Nat->Nat->World->Prop) (h1:Hid (∀ p q w',I p q w'->Q .normal (F p q) w')->cd.wp P Q a w) (h2:∀ p q w',I p q w'->Q .normal (F p q) w'):cd.wp P Q a w:=h1 h2
def slLen:Value->Nat
 | .slice _ n _=>n
 | _=>0
theorem kiM_at (part:Rw->List Rw->List Tr × Int × Int) (c:Int) (n:Nat) (r:Rw) (more:List Rw) (acc:List Tr):kiM part c (n+1) r more acc =
  if (part r (more.take (dpn more c))).2.1≠0 then ([],(part r (more.take (dpn more c))).2)else
  if dpn more c=more.length then (acc++(part r (more.take (dpn more c))).1,0,0)else
  if (more.getD (dpn more c) z3).1<c then ([],9,(more.getD (dpn more c) z3).2.2)else kiM part c n (more.getD (dpn more c) z3) (more.drop (dpn more c+1)) (acc++(part r (more.take (dpn more c))).1):=by
 rw[kiM];split
 ·rfl
 ·have hl:=dpn_le more c;by_cases h:dpn more c=more.length
  ·rw[if_pos h,List.drop_eq_nil_of_le (by omega)]
  ·rw[if_neg h,Blk.drop_getR more (dpn more c) (by omega)]
end Tre
namespace Tre
open Utf Rws Pln Flw
open Go.RowKit
set_option maxHeartbeats 2000000
theorem isEntry_any (l:Ln) (w:World) (hl:l.length<=140737488351232) (hT:Tb w):Calls Tryz.prog 68 #[.string (mk l)] w fun e w'=>e=.returned (.bool (isEn l))/\Below w.heap.size w w':=by
 have HE:Hid (Calls Tryz.prog 95 #[.string (mk l)] w fun e w'=>e=.returned (.tuple #[.agg #[.int .i64 (enT l).kind,.string (mk (enT l).text),.string ⟨#[]⟩,.slice none 0 0],.string (mk (enR l)),.int .i64 (enN l:Int),.bool (isEn l)])/\Below w.heap.size w w'):=entry0_any l hl hT;clear hT;generalize (enT l).kind=ck at *;generalize (enT l).text=ct at *;generalize enR l=eR at *;generalize enN l=eN at *;generalize isEn l=eB at *;go_enter Tryz.func68,Tryz.ntmps68;go_wp2_with fail;refine HE.out.mono ?_;rintro e w3 ⟨rfl,H3⟩;have B3:Hid (Below w.heap.size w w3):=H3;clear H3;go_wp2;go_ret;exact⟨rfl,B3.out.trans ((below_alloc w3 _).mono B3.out.size)⟩
end Tre
end Go.Proofs.YtalijhclfppohaaGreatDoor
