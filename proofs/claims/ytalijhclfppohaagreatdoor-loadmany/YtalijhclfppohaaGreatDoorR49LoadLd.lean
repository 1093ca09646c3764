/- . -/
import Derived.Test.YtalijhclfppohaaGreatDoorR48LoadLdA
import Derived.Deep.Cut
set_option linter.unusedSimpArgs false
set_option linter.unusedVariables false
set_option maxRecDepth 100000
namespace Go.Proofs.YtalijhclfppohaaGreatDoor
namespace Lod
open Utf Rws Pln Flw Tre
open Go.RowKit Go.Shelf
open Blk (Rw RwAt z3)
open Grp (wp_region_EI wpOpIn_go wpOpIn_append slu slu_t slu_f clo clo_nil clo_set)
set_option maxHeartbeats 8000000
attribute [local go_sem] Oper.semAt_some
def LdRes (q:List Tr × Int × Int) (w:World) (e:Ending) (w':World):Prop:=∃ a cap,e=.returned (.tuple #[.slice a q.1.length cap,.agg #[.int .i64 q.2.1,.int .i64 q.2.2]])/\Hid (KAtP w.heap.size w' a q.1.length q.1/\q.1.length<=cap/\cap<=maxLen)/\Hid (Below w.heap.size w w')
structure LrS (w W:World) (B0 B1:Nat):Prop where
 b0:Bx W B0 #[.slice none 0 0] 29
 b1:Bx W B1 #[.int .i64 0,.int .i64 0] 32
 bl:Below w.heap.size w W
 h0:w.heap.size<=B0
 h1:B0<B1
theorem LrS.later {w W W':World} {B0 B1:Nat} (h:LrS w W B0 B1) (hb:Below W.heap.size W W'):LrS w W' B0 B1:=⟨h.b0.later hb,h.b1.later hb,h.bl.trans (hb.mono h.bl.size),h.h0,h.h1⟩
theorem LrS.keep {w W W':World} {B0 B1 n:Nat} (h:LrS w W B0 B1) (hb:Below n W W') (h2:B1<n):LrS w W' B0 B1:=by
 have h0:=h.h0;have h1:=h.h1;exact⟨(hb.block B0 (by omega)).trans h.b0,(hb.block B1 h2).trans h.b1,h.bl.trans (hb.mono (by omega)),h.h0,h.h1⟩
def fl3 (W:World) (B0 B1:Nat) (u f0 f1:Value):World:=((W.setCell ⟨B0,0,none⟩ u).setCell ⟨B1,0,none⟩ f0).setCell ⟨B1,1,none⟩ f1
theorem LrS.fill {w W:World} {B0 B1:Nat} (h:LrS w W B0 B1) (u f0 f1:Value):Bx (fl3 W B0 B1 u f0 f1) B0 #[u] 29/\Bx (fl3 W B0 B1 u f0 f1) B1 #[f0,f1] 32/\Below w.heap.size w (fl3 W B0 B1 u f0 f1):=by
 have h0:=h.h0;have h1:=h.h1;have hn:B0≠B1:=by omega
 have hn':B1≠B0:=by omega
 unfold fl3;exact⟨((h.b0.set 0 _).other hn _ _).other hn _ _,((h.b1.other hn' _ _).set 0 _).set 1 _,((h.bl.setCell (p:=⟨B0,0,none⟩) h0 _).setCell (p:=⟨B1,0,none⟩) (by show _<=B1;omega) _).setCell (p:=⟨B1,1,none⟩) (by show _<=B1;omega) _⟩
theorem kat_nil {c:Nat} (W:World):KAtP c W none 0 []:=KAtP.nil c W
theorem LrS.new (w:World):LrS w ((w.alloc (.cells #[.slice none 0 0] 29)).alloc (.cells #[.int .i64 0,.int .i64 0] 32)) w.heap.size (w.heap.size+1):=by
 have h:=two_b w #[.slice none 0 0] #[.int .i64 0,.int .i64 0] 29 32;exact⟨h.2.1,h.2.2,h.1,Nat.le_refl _,Nat.lt_succ_self _⟩
theorem load_a (s:Ln) (hs:s.length<=65536) (w:World) (hf:(rwF s).1≠0):Calls Tryz.prog 14 #[.string (mk s)] w (LdRes ([],rwF s) w):=by
 have HR:Hid (∀ W,Calls Tryz.prog 13 #[.string (mk s)] W (RdRes s W)):=fun W=>read_rw s hs W
 unfold RdRes at HR;generalize rwF s=F at *;obtain⟨f1,f2⟩:=F;dsimp only at hf HR |-;have hfb:(f1==0)=false:=by simpa using hf
 have hfn:(f1 != 0)=true:=by simpa using hf
 obtain⟨W0,hW0⟩:∃ W0,(w.alloc (.cells #[.slice none 0 0] 29)).alloc (.cells #[.int .i64 0,.int .i64 0] 32)=W0:=⟨_,rfl⟩;have H0:Hid (LrS w W0 w.heap.size (w.heap.size+1)):=by rw[<-hW0];exact LrS.new w
 have HW0:Hid ((w.alloc (.cells #[.slice none 0 0] 29)).alloc (.cells #[.int .i64 0,.int .i64 0] 32)=W0):=hW0;clear hW0 hf;refine(callsIn_wide (n:=4)).1 ?_;refine callsIn_of_wp_marks Tryz.func14 rfl trivial ?_ rfl;simp only[Tryz.ntmps14,List.size_toArray,List.length_cons,List.length_nil,Nat.reduceAdd,Nat.reduceSub,Array.replicate_succ,Array.replicate_zero,List.push_toArray,List.append_toArray,List.nil_append,List.cons_append];refine wpIn_wide.2 ?_;go_upto_region 1 with fail
 rw[HW0.out];obtain⟨B0,hB0⟩:∃ B,B=w.heap.size:=⟨_,rfl⟩;obtain⟨B1,hB1⟩:∃ B,B=w.heap.size+1:=⟨_,rfl⟩;rw[<-hB1,<-hB0]at H0
 try rw[<-hB1]
 try rw[<-hB0]
 clear hB0 hB1 HW0;go_upto_region 5 with (go_at_call 13;refine(HR.out _).mono ?_;rintro e w1 ⟨a,cap,rfl,hr,hb⟩)
 have H1:Hid (LrS w w1 B0 B1):=H0.out.later hb.out;have H5:Hid (LrS w (w1.alloc (.cells #[.int .i64 f1,.int .i64 f2] 32)) B0 B1):=H1.out.later (below_alloc _ _);have N5:=Bx.new w1 #[.int .i64 f1,.int .i64 f2] 32;have hn5:B0≠w1.heap.size/\B1≠w1.heap.size:=⟨by have:=H1.out.b0.lt;omega,by have:=H1.out.b1.lt;omega⟩;generalize w1.alloc (.cells #[.int .i64 f1,.int .i64 f2] 32)=W5 at H5 N5 |-;generalize w1.heap.size=K5 at N5 hn5 |-;clear H0 H1 hr hb;obtain⟨hn50,hn51⟩:=hn5;obtain⟨c0,c1⟩:=N5.c2;have d0:W5.cell? ⟨B0,0,none⟩=some (.slice none 0 0):=H5.out.b0.cell 0;obtain⟨d1,d2⟩:=H5.out.b1.c2;have z0:=H5.out.b0.fz 0;have z1:=H5.out.b1.fz 0;have z2:=H5.out.b1.fz 1;have hn01:B0≠B1:=by have:=H5.out.h1;omega
 have HF:Hid (_/\_/\_):=H5.out.fill (.slice none 0 0) (.int .i64 f1) (.int .i64 f2);clear H5 N5;go_region
 all_goals
  go_wp2;change bodyPostM _ _ _ _ _ _ _ (fl3 W5 B0 B1 (.slice none 0 0) (.int .i64 f1) (.int .i64 f2)).drew;generalize fl3 W5 B0 B1 (.slice none 0 0) (.int .i64 f1) (.int .i64 f2)=W9 at HF |-;have g0:W9.drew.cell? ⟨B0,0,none⟩=some (.slice none 0 0):=HF.out.1.cell 0;obtain⟨g1,g2⟩:=HF.out.2.1.c2;refine⟨.tuple #[.slice none 0 0,.agg #[.int .i64 f1,.int .i64 f2]],by simp[results,Tryz.results14,go_sem,g0,g1,g2],?_⟩;exact⟨none,0,rfl,⟨kat_nil _,Nat.le_refl _,Nat.zero_le _⟩,HF.out.2.2.drew⟩
theorem load_b (s:Ln) (hs:s.length<=65536) (w:World) (hr0:(rwF s).1=0) (hf:(tmF (docs (rwW s))).1≠0):Calls Tryz.prog 14 #[.string (mk s)] w (LdRes ([],tmF (docs (rwW s))) w):=by
 have HR:Hid (∀ W,Calls Tryz.prog 13 #[.string (mk s)] W (RdRes s W)):=fun W=>read_rw s hs W
 unfold RdRes at HR;rw[hr0]at HR;generalize (rwF s).2=f9 at HR;have HTM:Hid (∀ a len cap W,Tre.RowsIn W a len cap (rwW s)->Calls Tryz.prog 25 #[.slice a len cap] W fun e w'=>e=.returned (.agg #[.int .i64 (tmF (docs (rwW s))).1,.int .i64 (tmF (docs (rwW s))).2])/\Below W.heap.size W w'):=fun a len cap W h=>tooMany_any a len cap (rwW s) W h
 generalize tmF (docs (rwW s))=F at *;obtain⟨f1,f2⟩:=F;dsimp only at hf HTM |-;have hfn:(f1 != 0)=true:=by simpa using hf
 obtain⟨W0,hW0⟩:∃ W0,(w.alloc (.cells #[.slice none 0 0] 29)).alloc (.cells #[.int .i64 0,.int .i64 0] 32)=W0:=⟨_,rfl⟩;have H0:Hid (LrS w W0 w.heap.size (w.heap.size+1)):=by rw[<-hW0];exact LrS.new w
 have HW0:Hid ((w.alloc (.cells #[.slice none 0 0] 29)).alloc (.cells #[.int .i64 0,.int .i64 0] 32)=W0):=hW0;clear hW0 hf;refine(callsIn_wide (n:=4)).1 ?_;refine callsIn_of_wp_marks Tryz.func14 rfl trivial ?_ rfl;simp only[Tryz.ntmps14,List.size_toArray,List.length_cons,List.length_nil,Nat.reduceAdd,Nat.reduceSub,Array.replicate_succ,Array.replicate_zero,List.push_toArray,List.append_toArray,List.nil_append,List.cons_append];refine wpIn_wide.2 ?_;go_upto_region 1 with fail
 rw[HW0.out];obtain⟨B0,hB0⟩:∃ B,B=w.heap.size:=⟨_,rfl⟩;obtain⟨B1,hB1⟩:∃ B,B=w.heap.size+1:=⟨_,rfl⟩;rw[<-hB1,<-hB0]at H0
 try rw[<-hB1]
 try rw[<-hB0]
 clear hB0 hB1 HW0;go_upto_region 3 with (go_at_call 13;refine(HR.out _).mono ?_;rintro e w1 ⟨a,cap,rfl,hr,hb⟩)
 have H1:Hid (LrS w w1 B0 B1):=H0.out.later hb.out;have b4:=below_alloc w1 (.cells #[.int .i64 0,.int .i64 f9] 32);have N4:=Bx.new w1 #[.int .i64 0,.int .i64 f9] 32;have hn5:B0≠w1.heap.size/\B1≠w1.heap.size:=⟨by have:=H1.out.b0.lt;omega,by have:=H1.out.b1.lt;omega⟩;have HTW:Hid (Calls Tryz.prog 25 #[.slice a (rwW s).length cap] (w1.alloc (.cells #[.int .i64 0,.int .i64 f9] 32)) _):=HTM.out a _ cap _ (hr.out.later b4);have H4:Hid (LrS w (w1.alloc (.cells #[.int .i64 0,.int .i64 f9] 32)) B0 B1):=H1.out.later b4;generalize w1.alloc (.cells #[.int .i64 0,.int .i64 f9] 32)=W4 at H4 N4 HTW b4 |-;have hk5:B1<w1.heap.size:=H1.out.b1.lt;generalize w1.heap.size=K5 at N4 hn5 hk5 b4 |-;clear H0 H1 hr hb b4;obtain⟨c0,c1⟩:=N4.c2;go_upto_region 5 with (go_at_call 25;refine HTW.out.mono ?_;rintro e w2 ⟨rfl,hb2⟩;have N2:Bx w2 K5 #[.int .i64 0,.int .i64 f9] 32:=N4.later hb2;obtain⟨e0,e1⟩:=N2.c2;have y0:=N2.fz 0;have y1:=N2.fz 1)
 have H5:Hid (LrS w ((w2.setCell ⟨K5,0,none⟩ (.int .i64 f1)).setCell ⟨K5,1,none⟩ (.int .i64 f2)) B0 B1):=(H4.out.later hb2).keep (((Below.refl K5 w2).setCell (p:=⟨K5,0,none⟩) (Nat.le_refl _) _).setCell (p:=⟨K5,1,none⟩) (Nat.le_refl _) _) hk5;have N5:Bx ((w2.setCell ⟨K5,0,none⟩ (.int .i64 f1)).setCell ⟨K5,1,none⟩ (.int .i64 f2)) K5 #[.int .i64 f1,.int .i64 f2] 32:=(N2.set 0 _).set 1 _;generalize (w2.setCell ⟨K5,0,none⟩ (.int .i64 f1)).setCell ⟨K5,1,none⟩ (.int .i64 f2)=W5 at H5 N5 |-;clear H4 N4 N2 e0 e1 y0 y1 HTW HTM hb2 c0 c1;obtain⟨hn50,hn51⟩:=hn5;obtain⟨c0,c1⟩:=N5.c2;have d0:W5.cell? ⟨B0,0,none⟩=some (.slice none 0 0):=H5.out.b0.cell 0;obtain⟨d1,d2⟩:=H5.out.b1.c2;have z0:=H5.out.b0.fz 0;have z1:=H5.out.b1.fz 0;have z2:=H5.out.b1.fz 1;have hn01:B0≠B1:=by have:=H5.out.h1;omega
 have HF:Hid (_/\_/\_):=H5.out.fill (.slice none 0 0) (.int .i64 f1) (.int .i64 f2);clear H5 N5;go_region
 all_goals
  go_wp2;change bodyPostM _ _ _ _ _ _ _ (fl3 W5 B0 B1 (.slice none 0 0) (.int .i64 f1) (.int .i64 f2)).drew;generalize fl3 W5 B0 B1 (.slice none 0 0) (.int .i64 f1) (.int .i64 f2)=W9 at HF |-;have g0:W9.drew.cell? ⟨B0,0,none⟩=some (.slice none 0 0):=HF.out.1.cell 0;obtain⟨g1,g2⟩:=HF.out.2.1.c2;refine⟨.tuple #[.slice none 0 0,.agg #[.int .i64 f1,.int .i64 f2]],by simp[results,Tryz.results14,go_sem,g0,g1,g2],?_⟩;exact⟨none,0,rfl,⟨kat_nil _,Nat.le_refl _,Nat.zero_le _⟩,HF.out.2.2.drew⟩
structure R12E where
 G:Nat
 g:Nat
 vc:Nat
 W:World
def r12Dp:List (List Nat):=[[],[],[0],[],[0,3],[4,2],[5,1],[4]]
theorem own_last {C n g cap:Nat} {W:World} {xs:List Value} {z0 z1 z2 z3:Value} (h:W.ownsRow C 35 4 (.slice (some ⟨g,0,none⟩) (n+1) cap) (n+1) (xs++[z0,z1,z2,z3])) (hx:xs.length=n*4) :
  W.cell? ⟨g,n*4,none⟩=some z0/\W.cell? ⟨g,n*4+1,none⟩=some z1/\W.cell? ⟨g,n*4+2,none⟩=some z2/\W.cell? ⟨g,n*4+3,none⟩=some z3/\W.frozen? ⟨g,n*4,none⟩=false/\W.frozen? ⟨g,n*4+1,none⟩=false/\W.frozen? ⟨g,n*4+2,none⟩=false/\W.frozen? ⟨g,n*4+3,none⟩=false:=by
 rcases h.2 with ⟨h1,_⟩ | ⟨g',cap',cur,e,hb,hg,hc,hm,hs,ht⟩
 ·cases h1
 ·cases e;have hbx:Bx W g cur 35:=hg
  have cc:∀ j u,j<(n+1)*4->(xs++[z0,z1,z2,z3])[j]?=some u->W.cell? ⟨g,j,none⟩=some u:=fun j u hj hu=>by
   rw[Lib.cell_of_heap hg];rw[<-ht,List.getElem?_take_of_lt hj]at hu;simpa using hu
  have ee:∀ k,k<4->(xs++[z0,z1,z2,z3])[n*4+k]?=[z0,z1,z2,z3][k]?:=fun k hk=>by
   rw[List.getElem?_append_right (by omega),hx,Nat.add_sub_cancel_left]
  exact⟨cc _ _ (by omega) (ee 0 (by decide)),cc _ _ (by omega) (ee 1 (by decide)),cc _ _ (by omega) (ee 2 (by decide)),cc _ _ (by omega) (ee 3 (by decide)),hbx.fz _,hbx.fz _,hbx.fz _,hbx.fz _⟩
theorem own_cells {C n:Nat} {W:World} {v:Value} {xs:List Value} (h:W.ownsRow C 35 4 v n xs) {j:Nat} {o:Obj} (e1:v.ownBlock=some j) (e2:W.heap[j]?=some o):o.isCells=true:=by
 rcases h.2 with ⟨rfl,_⟩ | ⟨g,cap,cur,rfl,_,hh,_⟩
 ·cases e1
 ·cases e1;have:W.heap[g]?=some o:=e2;rw[hh]at this;cases this;rfl
theorem load_c {p:List Rw->Tf} (HPA:Hid (∀ (rs:List Rw) (a:Option Addr) (len cap:Nat) (W:World),Tre.Good rs->Tb W->Tre.RowsIn W a len cap rs->Calls Tryz.prog 17 #[.slice a len cap] W (TfD 129 (p rs) W))) (s:Ln) (hs:s.length<=65536) (w:World) (hT:Tb w) (hr0:(rwF s).1=0) (hf:(tmF (docs (rwW s))).1=0) (hg:∀ d∈docs (rwW s),Tre.Good d.2):Calls Tryz.prog 14 #[.string (mk s)] w (LdRes (ldG p ((docs (rwW s)).map fun d=>d.2) []) w):=by
 have h64:(docs (rwW s)).length<=64:=tm_len hf;have HTb:Hid (Tb w):=hT;have HGD:Hid (∀ d∈docs (rwW s),Tre.Good d.2):=hg;clear hT hg;have HR:Hid (∀ W,Calls Tryz.prog 13 #[.string (mk s)] W (RdRes s W)):=fun W=>read_rw s hs W
 unfold RdRes at HR;rw[hr0]at HR;generalize (rwF s).2=f9 at HR;have HTM:Hid (∀ a len cap W,Tre.RowsIn W a len cap (rwW s)->Calls Tryz.prog 25 #[.slice a len cap] W fun e w'=>e=.returned (.agg #[.int .i64 (tmF (docs (rwW s))).1,.int .i64 (tmF (docs (rwW s))).2])/\Below W.heap.size W w'):=fun a len cap W h=>tooMany_any a len cap (rwW s) W h
 rw[hf]at HTM;generalize (tmF (docs (rwW s))).2=f2 at HTM;obtain⟨W0,hW0⟩:∃ W0,(w.alloc (.cells #[.slice none 0 0] 29)).alloc (.cells #[.int .i64 0,.int .i64 0] 32)=W0:=⟨_,rfl⟩;have H0:Hid (LrS w W0 w.heap.size (w.heap.size+1)):=by rw[<-hW0];exact LrS.new w
 have HW0:Hid ((w.alloc (.cells #[.slice none 0 0] 29)).alloc (.cells #[.int .i64 0,.int .i64 0] 32)=W0):=hW0;clear hW0 hf hr0;refine(callsIn_wide (n:=4)).1 ?_;refine callsIn_of_wp_marks Tryz.func14 rfl trivial ?_ rfl;simp only[Tryz.ntmps14,List.size_toArray,List.length_cons,List.length_nil,Nat.reduceAdd,Nat.reduceSub,Array.replicate_succ,Array.replicate_zero,List.push_toArray,List.append_toArray,List.nil_append,List.cons_append];refine wpIn_wide.2 ?_;go_upto_region 1 with fail
 rw[HW0.out];obtain⟨B0,hB0⟩:∃ B,B=w.heap.size:=⟨_,rfl⟩;obtain⟨B1,hB1⟩:∃ B,B=w.heap.size+1:=⟨_,rfl⟩;rw[<-hB1,<-hB0]at H0
 try rw[<-hB1]
 try rw[<-hB0]
 clear hB0 hB1 HW0;go_upto_region 3 with (go_at_call 13;refine(HR.out _).mono ?_;rintro e w1 ⟨a,cap,rfl,hr,hb⟩)
 have H1:Hid (LrS w w1 B0 B1):=H0.out.later hb.out;have b4:=below_alloc w1 (.cells #[.int .i64 0,.int .i64 f9] 32);have N4:=Bx.new w1 #[.int .i64 0,.int .i64 f9] 32;have hn5:B0≠w1.heap.size/\B1≠w1.heap.size:=⟨by have:=H1.out.b0.lt;omega,by have:=H1.out.b1.lt;omega⟩;have HTW:Hid (Calls Tryz.prog 25 #[.slice a (rwW s).length cap] (w1.alloc (.cells #[.int .i64 0,.int .i64 f9] 32)) _):=HTM.out a _ cap _ (hr.out.later b4);have H4:Hid (LrS w (w1.alloc (.cells #[.int .i64 0,.int .i64 f9] 32)) B0 B1):=H1.out.later b4;generalize w1.alloc (.cells #[.int .i64 0,.int .i64 f9] 32)=W4 at H4 N4 HTW b4 |-;have hk5:B1<w1.heap.size:=H1.out.b1.lt;have hr:Tre.RowsIn w1 a (rwW s).length cap (rwW s):=hr.out;obtain⟨K5,hK5⟩:∃ K,K=w1.heap.size:=⟨_,rfl⟩;rw[<-hK5]at N4 hn5 hk5 b4 |-;have HK5:Hid (K5=w1.heap.size):=hK5;clear H0 H1 hb hK5;obtain⟨c0,c1⟩:=N4.c2;go_upto_region 6 with (go_at_call 25;refine HTW.out.mono ?_;rintro e w2 ⟨rfl,hb2⟩;have N2:Bx w2 K5 #[.int .i64 0,.int .i64 f9] 32:=N4.later hb2;obtain⟨e0,e1⟩:=N2.c2;have y0:=N2.fz 0;have y1:=N2.fz 1)
 have BK5:Below K5 w2 ((w2.setCell ⟨K5,0,none⟩ (.int .i64 0)).setCell ⟨K5,1,none⟩ (.int .i64 f2)):=((Below.refl K5 w2).setCell (p:=⟨K5,0,none⟩) (Nat.le_refl _) _).setCell (p:=⟨K5,1,none⟩) (Nat.le_refl _) _;have H5:Hid (LrS w ((w2.setCell ⟨K5,0,none⟩ (.int .i64 0)).setCell ⟨K5,1,none⟩ (.int .i64 f2)) B0 B1):=(H4.out.later hb2).keep BK5 hk5;have hK5:=HK5.out;have R5:Hid (Tre.RowsIn ((w2.setCell ⟨K5,0,none⟩ (.int .i64 0)).setCell ⟨K5,1,none⟩ (.int .i64 f2)) a (rwW s).length cap (rwW s)):=(hr.later ((b4.mono (by omega)).trans ((hb2.mono b4.size).trans (BK5.mono (by omega)))));generalize (w2.setCell ⟨K5,0,none⟩ (.int .i64 0)).setCell ⟨K5,1,none⟩ (.int .i64 f2)=W5 at H5 R5 |-;clear H4 N4 N2 e0 e1 y0 y1 HTW HTM hb2 c0 c1 BK5 hr hK5 HK5 b4 hn5 hk5;refine(wpIn_wide (n:=4)).1 ?_
 repeat gi_step
 refine(wpIn_wide (n:=4)).1 ?_
 -- RANGE
 obtain⟨R,HRW⟩:∃ R,Hid (R=rwW s):=⟨_,rfl⟩;rw[<-HRW.out]at h64 HGD R5 |-
 gi_wp2_with (first | (refine⟨trivial,?_⟩;gi_at_call 18;refine(documents_in a R.length cap _ _).mono ?_;rintro e w' ⟨rfl,rfl⟩))
 have hlb:LrS w W5 B0 B1:=H5.out;have hb06:B0<W5.heap.size:=hlb.b0.lt;have hb16:B1<W5.heap.size:=hlb.b1.lt;have n01:B0<B1:=hlb.h1;have nw0:w.heap.size<=B0:=hlb.h0;obtain⟨W0,hW0⟩:∃ W0,(W5.alloc (.cells #[.slice none 0 0] 29)).alloc (.cells #[.slice a R.length cap] 22)=W0:=⟨_,rfl⟩;rw[hW0];have n2:=two_b W5 #[.slice none 0 0] #[.slice a R.length cap] 29 22;have hS0:W0.heap.size=W5.heap.size+1+1:=by rw[<-hW0];simp
 rw[hW0]at n2;obtain⟨nb,nt,nl⟩:=n2;have hB0:Below w.heap.size w W0:=hlb.bl.trans (nb.mono hlb.bl.size);have HL0:Hid (Bx W0 B0 #[.slice none 0 0] 29/\Bx W0 B1 #[.int .i64 0,.int .i64 0] 32):=⟨hlb.b0.later nb,hlb.b1.later nb⟩
 obtain⟨b,hb6,hRB⟩:∃ b,b<W5.heap.size/\RowsB W0 b a R.length cap R:=by
  have h':=R5.out.later nb;by_cases hp:0<R.length
  ·obtain⟨b,off,had,hlt,_⟩:=R5.out.1.2 hp;exact⟨b,hlt,h',fun _=>⟨off,had⟩⟩
  ·exact⟨B0,hb06,h',fun q=>absurd q hp⟩
 have hrb:∀ r∈R,r.2.1.length<=140737488351232:=R5.out.2.2.2;obtain⟨K6,hK6⟩:∃ K,K=W5.heap.size:=⟨_,rfl⟩;obtain⟨KL,hKL⟩:∃ K,K=W5.heap.size+1:=⟨_,rfl⟩;have hSC:W0.heap.size=KL+1:=by omega
 rw[<-hKL]at nl;rw[<-hK6]at nt hb06 hb16 hb6 hKL
 try rw[<-hK6]
 try rw[<-hKL]
 have bL:W0.cell? ⟨KL,0,none⟩=some (.slice a R.length cap):=nl.cell 0;have hKS:K6<KL:=by omega
 clear hW0 nb hlb hS0 H5 R5 hK6 hKL
 refine wpIn_rangeFunc_ownG rfl (by decide) (gf:=28) (lb:=#[.pointer (some ⟨KL,0,none⟩)]) rfl trivial (enters_of Tryz.func28 (by kernel_rfl) rfl)
  (docs_stops (P:=Tre.Good) (4-1) (by decide) KL b a R.length cap R HGD.out hrb W0 (by omega) (by omega) bL hRB) (fun h k=>kpd_trans h k) (fun X l o o' hl _ _ _=>⟨World.putObj_heap_other (fun e=>by omega),World.putObj_heap_other (fun e=>by omega),by simp[World.putObj]⟩) (Below.refl _ _) (fun _=>rfl)
  (fun (pre:List (Dx W0 b Tre.Good)) W=>((∀ x∈pre,(p x.1.2.2).2.1=0)/\LdI K6 W0.heap.size (pre.map fun x=>(p x.1.2.2).1) W)/\Lo W0 W K6 W0.heap.size)
  (fun c (pre:List (Dx W0 b Tre.Good)) W=>(c=.ret/\∃ (q:List (Dx W0 b Tre.Good)) (x:Dx W0 b Tre.Good),pre=q++[x]/\(∀ y∈q,(p y.1.2.2).2.1=0)/\(p x.1.2.2).2.1≠0/\W.cell? ⟨B0,0,none⟩=some (.slice none 0 0)/\W.cell? ⟨B1,0,none⟩=some (.int .i64 (p x.1.2.2).2.1)/\W.cell? ⟨B1,1,none⟩=some (.int .i64 (p x.1.2.2).2.2))/\Below w.heap.size w W)
  (OwnFrom.and (fun pre W W' row h hg hr=>⟨h.1,ldI_own K6 W0.heap.size (fun pre:List (Dx W0 b Tre.Good)=>pre.map fun x=>(p x.1.2.2).1) pre W W' row h.2 hg (fun r e=>(hr r e).2)⟩) (Lo.own (Nat.le_refl _) (Nat.le_refl _)))
  (fun c=>OwnFrom.and (Own.from (fun t A B row ht hg hr=>by
   obtain⟨h1,q,x,h2,h3,h4,h5,h6,h7⟩:=ht;exact⟨h1,q,x,h2,h3,h4,cell_kept h5 hg hr,cell_kept h6 hg hr,cell_kept h7 hg hr⟩) _) (ownFrom_below (Nat.le_refl _) (by have:=hB0.size;omega)))
  ⟨⟨fun x hx=>absurd hx (by simp),.slice none 0 0,[],nt,World.ownsRow_nil _ _ _ _,KdQ.nil _⟩,Lo.refl _ _ _⟩
  (fun x=> { tmps:=#[.string (mk s),undef,.pointer (some ⟨B0,0,none⟩),.pointer (some ⟨B1,0,none⟩),.slice a R.length cap,.pointer (some ⟨K5,0,none⟩),.pointer (some ⟨K6,0,none⟩),undef,.slice x.1.2.1.1 x.1.2.1.2.1 x.1.2.1.2.2,undef,undef,.tuple #[.slice a R.length cap,.agg #[.int .i64 0,.int .i64 f9]],.string (mk s),.tuple #[.slice a R.length cap,.agg #[.int .i64 0,.int .i64 f9]],.slice a R.length cap,.agg #[.int .i64 0,.int .i64 f9],.pointer (some ⟨K5,0,none⟩),.int .i64 0,.bool true,.slice a R.length cap,.agg #[.int .i64 0,.int .i64 f2],.pointer (some ⟨K5,0,none⟩),.int .i64 0,.bool false,undef,.slice a R.length cap,.func (.func 28) #[] #[.pointer (some ⟨KL,0,none⟩)],.int .i64 x.1.1,.slice x.1.2.1.1 x.1.2.1.2.1 x.1.2.1.2.2,undef,undef,undef,undef,undef,undef,undef,undef,undef,undef,undef,undef,undef,undef,undef,undef,undef],defers:=[] }) ?assign ?body ?done ?stop
 case assign =>
  intro l x W K hK
  gi_wp2
  exact hK
 case body =>
  rintro l pre x W ⟨⟨hok,v,xs,hbt,hown,hkd⟩,hLo⟩ hlt;have hpl:pre.length<64:=by omega
  have hWs:=hLo.size;have hwB0:=hB0.size;have hWb:Below w.heap.size w W:=hLo.below hB0 (by omega) (by omega);have hXR:RowsB W b x.1.2.1.1 x.1.2.1.2.1 x.1.2.1.2.2 x.1.2.2:=x.2.1.kept (hLo.block b (by omega) (by omega)) hLo.size;obtain⟨Q,HQ⟩:∃ Q,Hid (Q=p x.1.2.2):=⟨_,rfl⟩
  have HPW:Hid (Calls Tryz.prog 17 #[.slice x.1.2.1.1 x.1.2.1.2.1 x.1.2.1.2.2] W fun e w'=>∃ (k:Int) (tx ta:ByteArray) (ad:Option Addr) (tl tc:Nat),e=.returned (.tuple #[.agg #[.int .i64 k,.string tx,.string ta,.slice ad tl tc],.agg #[.int .i64 Q.2.1,.int .i64 Q.2.2]])/\Hid (TrP W.heap.size w' 129 (.agg #[.int .i64 k,.string tx,.string ta,.slice ad tl tc]) Q.1)/\Hid (Below W.heap.size W w')):=by
   rw[HQ.out];refine(HPA.out _ _ _ _ W x.2.2 (HTb.out.later hWb) hXR.1).mono (fun e w' q=> ?_);obtain⟨pv,h1,h2,h3⟩:=q;obtain⟨k,tx,ta,ad,tl,tc,rfl⟩:=h2.cells;exact⟨k,tx,ta,ad,tl,tc,h1,h2,h3⟩
  have HX0:Hid (Bx W B0 #[.slice none 0 0] 29/\Bx W B1 #[.int .i64 0,.int .i64 0] 32):=⟨hLo.bx HL0.out.1 (by omega) (by omega),hLo.bx HL0.out.2 (by omega) (by omega)⟩;have HOK:Hid (∀ y∈pre,(p y.1.2.2).2.1=0):=hok;have HBW:Hid (Below w.heap.size w W):=hWb;obtain⟨Q1,q1,q2⟩:=Q;dsimp only at HPW;by_cases hq:q1=0
  ·have hqn2:Hid ((p x.1.2.2).2.1=0/\(p x.1.2.2).1=Q1):=by
    have h:p x.1.2.2=(Q1,q1,q2):=HQ.out.symm;rw[h];exact⟨hq,rfl⟩
   have HSW:Hid (∀ n,W.heap.size<=n->W.heap.size<=n):=fun n h=>h
   subst hq;obtain⟨KS,hKS⟩:∃ KS,KS=pre.map fun x=>(p x.1.2.2).1:=⟨_,rfl⟩
   have HKS0:Hid (KS=pre.map fun x=>(p x.1.2.2).1):=hKS;rw[<-hKS]at hown hkd;obtain⟨N,hN⟩:∃ N,N=KS.length:=⟨_,rfl⟩;have HN:Hid (N=KS.length):=hN;have hN64:N<64:=by rw[hN,hKS,List.length_map];exact hpl
   rw[<-hN]at hown;clear hKS hN hXR hWb hok HPA HQ;obtain⟨va,vc,rfl⟩:=slice_of_own hown;have HXL:Hid (xs.length=N*4):=hown.1
   gi_wp2_with (first | (refine⟨trivial,?_⟩;gi_at_call 17;refine(CallsIn.inRound l (callsIn_wide.2 HPW.out)).mono ?_;rintro e w1 ⟨qk,qx,qa,qd,ql,qc,rfl,HT1,HB1⟩))
   have n9:=two_b w1 #[.int .i64 qk,.string qx,.string qa,.slice qd ql qc] #[.int .i64 0,.int .i64 q2] 35 32;have hw1s:=HB1.out.size;have hb6':Below W.heap.size W ((w1.alloc (.cells #[.int .i64 qk,.string qx,.string qa,.slice qd ql qc] 35)).alloc (.cells #[.int .i64 0,.int .i64 q2] 32)):=HB1.out.trans (n9.1.mono HB1.out.size);have hT6:=HT1.out.later n9.1;generalize (w1.alloc (.cells #[.int .i64 qk,.string qx,.string qa,.slice qd ql qc] 35)).alloc (.cells #[.int .i64 0,.int .i64 q2] 32)=W6 at n9 hb6' hT6 |-;obtain⟨K9,hK9⟩:∃ K,K=w1.heap.size:=⟨_,rfl⟩;obtain⟨K10,hK10⟩:∃ K,K=w1.heap.size+1:=⟨_,rfl⟩;have N9:Hid (Bx W6 K9 #[.int .i64 qk,.string qx,.string qa,.slice qd ql qc] 35):=by rw[hK9];exact n9.2.1
   have N10:Hid (Bx W6 K10 #[.int .i64 0,.int .i64 q2] 32):=by rw[hK10];exact n9.2.2
   have HA6:Hid (LdA W0 W6 K6 K9 W0.heap.size (.slice va N vc) (.slice va N vc) N xs [] KS #[.int .i64 qk,.string qx,.string qa,.slice qd ql qc] Q1):=by
    have hrow:∀ k,(Value.slice va N vc).ownBlock=some k->W0.heap.size<=k/\k<W.heap.size:=fun k hk=>own_blk hown hk
    refine⟨hLo.later (Nat.le_refl _) hb6',hbt.later hb6',N9.out,?_,hkd.later hb6',hT6.wide (fun j hj _=>⟨by omega,fun k hk=>by have:=(hrow k hk).2;omega⟩),⟨by omega,fun k hk=>by have:=(hrow k hk).2;omega⟩,rfl,by omega⟩;rw[List.append_nil];exact own_keep hown (fun j _ hj=>hb6'.block j hj)
   have HB6:Hid (KeepsOthers W W6):=KeepsOthers.of_grownBy (grown_of_below hb6') (fun j o e=>by cases e);have hs6:W0.heap.size<=W6.heap.size:=by have:=hb6'.size;omega
   try rw[<-hK10]
   try rw[<-hK9]
   clear n9 hb6' hw1s hK10 HT1 HB1 HPW hK9 hT6 hown hkd hbt;obtain⟨f0,f1⟩:=N10.out.c2
   gi_wp2
   have hmix:Tryz.prog.follows .mixedOrders=true:=by kernel_rfl
   obtain⟨it,hi,hz0,hz1,hz2⟩:=info_parts infoTree;have jb0:Hid (Bx W6.drew K9 #[.int .i64 qk,.string qx,.string qa,.slice qd ql qc] 35/\W0.heap.size<=W6.drew.heap.size/\KeepsOthers W W6.drew):=⟨N9.out,hs6,HB6.out.trans (KeepsOthers.drew _)⟩;have j00:([false,false,false,false,false,false,false,false]:List Bool).getD 4 false=false->Hid (LdA W0 W6.drew K6 K9 W0.heap.size (.slice va N vc) (.slice va N vc) N xs [] KS #[.int .i64 qk,.string qx,.string qa,.slice qd ql qc] Q1):=fun _=>HA6.out.later (Below.refl _ W6).drew
   clear N9 N10 HA6 HB6 f0 f1;have hNN:(N:Int)<(N:Int)+1:=by omega
   refine wp_region_EI hmix (N:=8) (dp:=r12Dp) (by kernel_rfl) (E:=R12E) (fun (e:R12E) (bs:List Bool)=>Hid (Bx e.W K9 #[.int .i64 qk,.string qx,.string qa,.slice qd ql qc] 35/\W0.heap.size<=e.W.heap.size/\KeepsOthers W e.W)/\(bs.getD 4 false=false->Hid (LdA W0 e.W K6 K9 W0.heap.size (.slice va N vc) (.slice va N vc) N xs [] KS #[.int .i64 qk,.string qx,.string qa,.slice qd ql qc] Q1))/\(bs.getD 3 false=true->bs.getD 4 false=false->Hid (Bx e.W e.G #[.int .i64 0,.string ⟨#[]⟩,.string ⟨#[]⟩,.slice none 0 0] 35))/\(bs.getD 4 false=true->Hid (LdA W0 e.W K6 K9 W0.heap.size (cond (bs.getD 7 false) (.slice (some ⟨e.g,0,none⟩) (N+1) e.vc) (.slice va N vc)) (.slice (some ⟨e.g,0,none⟩) (N+1) e.vc) (N+1) xs (cond (bs.getD 6 false) [.int .i64 qk,.string qx,.string qa,.slice qd ql qc] [.int .i64 0,.string ⟨#[]⟩,.string ⟨#[]⟩,.slice none 0 0]) KS #[.int .i64 qk,.string qx,.string qa,.slice qd ql qc] Q1))/\clo r12Dp bs) (fun (e:R12E) (bs:List Bool)=> { tmps:=#[.string (mk s),undef,.pointer (some ⟨B0,0,none⟩),.pointer (some ⟨B1,0,none⟩),.slice a R.length cap,.pointer (some ⟨K5,0,none⟩),.pointer (some ⟨K6,0,none⟩),undef,.slice x.1.2.1.1 x.1.2.1.2.1 x.1.2.1.2.2,.pointer (some ⟨K9,0,none⟩),.pointer (some ⟨K10,0,none⟩),.tuple #[.slice a R.length cap,.agg #[.int .i64 0,.int .i64 f9]],.string (mk s),.tuple #[.slice a R.length cap,.agg #[.int .i64 0,.int .i64 f9]],.slice a R.length cap,.agg #[.int .i64 0,.int .i64 f9],.pointer (some ⟨K5,0,none⟩),.int .i64 0,.bool true,.slice a R.length cap,.agg #[.int .i64 0,.int .i64 f2],.pointer (some ⟨K5,0,none⟩),.int .i64 0,.bool false,undef,.slice a R.length cap,.func (.func 28) #[] #[.pointer (some ⟨KL,0,none⟩)],.int .i64 x.1.1,.slice x.1.2.1.1 x.1.2.1.2.1 x.1.2.1.2.2,.tuple #[.agg #[.int .i64 qk,.string qx,.string qa,.slice qd ql qc],.agg #[.int .i64 0,.int .i64 q2]],.slice x.1.2.1.1 x.1.2.1.2.1 x.1.2.1.2.2,.tuple #[.agg #[.int .i64 qk,.string qx,.string qa,.slice qd ql qc],.agg #[.int .i64 0,.int .i64 q2]],.agg #[.int .i64 qk,.string qx,.string qa,.slice qd ql qc],.agg #[.int .i64 0,.int .i64 q2],.pointer (some ⟨K10,0,none⟩),.int .i64 0,.bool false,undef,slu (bs.getD 0 false) (.slice va N vc) undef,slu (bs.getD 1 false) (.agg #[.int .i64 qk,.string qx,.string qa,.slice qd ql qc]) undef,slu (bs.getD 2 false) (.int .i64 (N:Int)) undef,slu (bs.getD 3 false) (.slice (some ⟨e.G,0,none⟩) 1 1) undef,slu (bs.getD 4 false) (.slice (some ⟨e.g,0,none⟩) (N+1) e.vc) undef,slu (bs.getD 5 false) (.pointer (some ⟨e.g,N*4,none⟩)) undef,undef,undef],defers:=[] }) (fun (e:R12E) (bs:List Bool)=>e.W) ?hS ?hF ⟨0,0,0,W6.drew⟩ ⟨jb0,j00,fun h=>absurd h (by decide),fun h=>absurd h (by decide),clo_nil _ _⟩ rfl rfl
   case hS =>
    rintro e bs hJ hl i hi' hbi hd Kk hK;have hcl:=clo_set hJ.2.2.2.2 (i:=i) (by rw[hl];exact hi') hd
    match bs,hl with
    | [b0,b1,b2,b3,b4,b5,b6,b7],_ =>
     obtain⟨JB,J0,J1,J2,JC⟩:=hJ;simp only[List.getD_cons_zero,List.getD_cons_succ]at J0 J1 J2 |-;have hi2:i=0\/i=1\/i=2\/i=3\/i=4\/i=5\/i=6\/i=7:=by omega
     rcases hi2 with rfl | rfl | rfl | rfl | rfl | rfl | rfl | rfl
     ·have g0:b0=false:=hbi;have f2:b2=false:=by cases hb:b2 with | false=>rfl | true=>exact absurd (show b0=true from(JC 2 0 (by simp[r12Dp]) hb)) (by rw[g0];simp)
      have f4:b4=false:=by cases hb:b4 with | false=>rfl | true=>exact absurd (show b0=true from(JC 4 0 (by simp[r12Dp]) hb)) (by rw[g0];simp)
      have f5:b5=false:=by cases hb:b5 with | false=>rfl | true=>exact absurd (show b0=true from(JC 4 0 (by simp[r12Dp]) (JC 5 4 (by simp[r12Dp]) hb))) (by rw[g0];simp)
      have f6:b6=false:=by cases hb:b6 with | false=>rfl | true=>exact absurd (show b0=true from(JC 4 0 (by simp[r12Dp]) (JC 5 4 (by simp[r12Dp]) (JC 6 5 (by simp[r12Dp]) hb)))) (by rw[g0];simp)
      have f7:b7=false:=by cases hb:b7 with | false=>rfl | true=>exact absurd (show b0=true from(JC 4 0 (by simp[r12Dp]) (JC 7 4 (by simp[r12Dp]) hb))) (by rw[g0];simp)
      subst g0 f2 f4 f5 f6 f7;have c0:e.W.cell? ⟨K6,0,none⟩=some (.slice va N vc):=(J0 rfl).out.bt.cell 0;have hK2:=hK e ⟨JB,J0,J1,J2,hcl⟩;clear hK hd hbi hcl JB J0 J1 J2 JC;simp only[List.set_cons_zero,List.set_cons_succ,List.getD_cons_zero,List.getD_cons_succ,slu_t,slu_f]at hK2 |-;refine wpOpIn_go rfl rfl ?_
      go_simp
      exact hK2
     ·have g1:b1=false:=hbi;subst g1;obtain⟨y0,y1,y2,y3⟩:=JB.out.1.c4;have hK2:=hK e ⟨JB,J0,J1,J2,hcl⟩;clear hK hd hbi hcl JB J0 J1 J2 JC;simp only[List.set_cons_zero,List.set_cons_succ,List.getD_cons_zero,List.getD_cons_succ,slu_t,slu_f]at hK2 |-;refine wpOpIn_go rfl rfl ?_
      go_simp
      exact hK2
     ·have g2:b2=false:=hbi;have e0:b0=true:=hd 0 (by simp[r12Dp]);subst g2 e0;obtain⟨y0,y1,y2,y3⟩:=JB.out.1.c4;have hK2:=hK e ⟨JB,J0,J1,J2,hcl⟩;clear hK hd hbi hcl JB J0 J1 J2 JC;simp only[List.set_cons_zero,List.set_cons_succ,List.getD_cons_zero,List.getD_cons_succ,slu_t,slu_f]at hK2 |-;refine wpOpIn_go rfl rfl ?_
      go_simp
      exact hK2
     ·have g3:b3=false:=hbi;have f4:b4=false:=by cases hb:b4 with | false=>rfl | true=>exact absurd (show b3=true from(JC 4 3 (by simp[r12Dp]) hb)) (by rw[g3];simp)
      have f5:b5=false:=by cases hb:b5 with | false=>rfl | true=>exact absurd (show b3=true from(JC 4 3 (by simp[r12Dp]) (JC 5 4 (by simp[r12Dp]) hb))) (by rw[g3];simp)
      have f6:b6=false:=by cases hb:b6 with | false=>rfl | true=>exact absurd (show b3=true from(JC 4 3 (by simp[r12Dp]) (JC 5 4 (by simp[r12Dp]) (JC 6 5 (by simp[r12Dp]) hb)))) (by rw[g3];simp)
      have f7:b7=false:=by cases hb:b7 with | false=>rfl | true=>exact absurd (show b3=true from(JC 4 3 (by simp[r12Dp]) (JC 7 4 (by simp[r12Dp]) hb))) (by rw[g3];simp)
      subst g3 f4 f5 f6 f7;have bA:=below_alloc e.W (.cells #[.int .i64 0,.string ⟨#[]⟩,.string ⟨#[]⟩,.slice none 0 0] 35);have hK2:=hK ⟨e.W.heap.size,e.g,e.vc,e.W.alloc (.cells #[.int .i64 0,.string ⟨#[]⟩,.string ⟨#[]⟩,.slice none 0 0] 35)⟩ ⟨⟨JB.out.1.later bA,Nat.le_trans JB.out.2.1 bA.size,JB.out.2.2.trans (KeepsOthers.alloc _ _)⟩,fun h=>(J0 h).out.later bA,fun _ _=>Bx.new _ _ _,fun h=>absurd h (by simp),hcl⟩;clear hK hd hbi hcl JB J0 J1 J2 JC bA;simp only[List.set_cons_zero,List.set_cons_succ,List.getD_cons_zero,List.getD_cons_succ,slu_t,slu_f]at hK2 |-;refine wpOpIn_go rfl rfl ?_
      go_simp
      exact hK2
     ·have g4:b4=false:=hbi;have e0:b0=true:=hd 0 (by simp[r12Dp]);have e3:b3=true:=hd 3 (by simp[r12Dp]);have f5:b5=false:=by cases hb:b5 with | false=>rfl | true=>exact absurd (show b4=true from(JC 5 4 (by simp[r12Dp]) hb)) (by rw[g4];simp)
      have f6:b6=false:=by cases hb:b6 with | false=>rfl | true=>exact absurd (show b4=true from(JC 5 4 (by simp[r12Dp]) (JC 6 5 (by simp[r12Dp]) hb))) (by rw[g4];simp)
      have f7:b7=false:=by cases hb:b7 with | false=>rfl | true=>exact absurd (show b4=true from(JC 7 4 (by simp[r12Dp]) hb)) (by rw[g4];simp)
      subst g4 e0 e3 f5 f6 f7;have h0:=(J0 rfl).out;have hB:=(J1 rfl rfl).out;refine wpOpIn_append rfl rfl (.tmp 38) (.tmp 41) 29 rfl W0.heap.size 35 it (.agg zT) 4 64 Tryz.underlying29 hi hz0 hz1 hz2 rfl (by decide) (.slice va N vc) N xs (by simp[Act.eval,slu_t]) (by have:=h0.own;rw[List.append_nil]at this;exact this) ⟨e.G,0,none⟩ 1 1 [.int .i64 0,.string ⟨#[]⟩,.string ⟨#[]⟩,.slice none 0 0] (by simp[Act.eval,slu_t]) rfl (cells_z4 _ _ _ _ _ _ hB) (one4 _ _ _ _ _ _) (by unfold maxLen;omega) (by omega) JB.out.2.1 ?_;intro v' w3 hown' hgrow hat;obtain⟨g',vc',rfl⟩:=own_sh hown';have h2:=h0.more hown' hgrow hat;have hko:KeepsOthers e.W w3:=KeepsOthers.of_grownBy hgrow (fun j o e1 e2=>own_cells h0.own e1 e2);exact hK ⟨e.G,g',vc',w3⟩ ⟨⟨h2.b9,Nat.le_trans JB.out.2.1 hgrow.size,JB.out.2.2.trans hko⟩,fun h=>absurd h (by simp),fun _ h=>absurd h (by simp),fun _=>h2,hcl⟩
     ·have g5:b5=false:=hbi;have e4:b4=true:=hd 4 (by simp[r12Dp]);have e2:b2=true:=hd 2 (by simp[r12Dp]);subst g5 e4 e2;obtain⟨y0,y1,y2,y3⟩:=JB.out.1.c4;have hK2:=hK e ⟨JB,J0,J1,J2,hcl⟩;clear hK hd hbi hcl JB J0 J1 J2 JC;simp only[List.set_cons_zero,List.set_cons_succ,List.getD_cons_zero,List.getD_cons_succ,slu_t,slu_f]at hK2 |-;refine wpOpIn_go rfl rfl ?_
      go_simp
      exact hK2
     ·have g6:b6=false:=hbi;have e5:b5=true:=hd 5 (by simp[r12Dp]);have e1:b1=true:=hd 1 (by simp[r12Dp]);have x4:b4=true:=(JC 5 4 (by simp[r12Dp]) e5);subst g6 e5 e1 x4;have h2:=(J2 rfl).out;obtain⟨r0,r1,r2,r3,z0,z1,z2,z3⟩:=own_last h2.own HXL.out;have h3:=h2.fill (u0:=.int .i64 qk) (u1:=.string qx) (u2:=.string qa) (u3:=.slice qd ql qc) HXL.out;have hK2:=hK ⟨e.G,e.g,e.vc,(((e.W.setCell ⟨e.g,N*4,none⟩ (.int .i64 qk)).setCell ⟨e.g,N*4+1,none⟩ (.string qx)).setCell ⟨e.g,N*4+2,none⟩ (.string qa)).setCell ⟨e.g,N*4+3,none⟩ (.slice qd ql qc)⟩ ⟨⟨h3.b9,by simp only[World.size_setCell];exact JB.out.2.1,JB.out.2.2.trans ((((KeepsOthers.setCell _ _ _).trans (KeepsOthers.setCell _ _ _)).trans (KeepsOthers.setCell _ _ _)).trans (KeepsOthers.setCell _ _ _))⟩,fun h=>absurd h (by simp),fun _ h=>absurd h (by simp),fun _=>h3,hcl⟩;clear hK hd hbi hcl JB J0 J1 J2 JC h2 h3;simp only[List.set_cons_zero,List.set_cons_succ,List.getD_cons_zero,List.getD_cons_succ,slu_t,slu_f]at hK2 |-;refine wpOpIn_go rfl rfl ?_
      go_simp
      exact hK2
     ·have g7:b7=false:=hbi;have e4:b4=true:=hd 4 (by simp[r12Dp]);subst g7 e4;have h2:=(J2 rfl).out;have c0:e.W.cell? ⟨K6,0,none⟩=some (.slice va N vc):=h2.bt.cell 0;have z0:=h2.bt.fz 0;have h3:=h2.box (.slice (some ⟨e.g,0,none⟩) (N+1) e.vc);have hK2:=hK ⟨e.G,e.g,e.vc,e.W.setCell ⟨K6,0,none⟩ (.slice (some ⟨e.g,0,none⟩) (N+1) e.vc)⟩ ⟨⟨h3.b9,by simp only[World.size_setCell];exact JB.out.2.1,JB.out.2.2.trans (KeepsOthers.setCell _ _ _)⟩,fun h=>absurd h (by simp),fun _ h=>absurd h (by simp),fun _=>h3,hcl⟩;clear hK hd hbi hcl JB J0 J1 J2 JC h2 h3;simp only[List.set_cons_zero,List.set_cons_succ,List.getD_cons_zero,List.getD_cons_succ,slu_t,slu_f]at hK2 |-;refine wpOpIn_go rfl rfl ?_
      go_simp
      exact hK2
   case hF =>
    rintro e ⟨JB,J0,J1,J2,JC⟩;simp only[show List.replicate 8 true=[true,true,true,true,true,true,true,true]from rfl,List.getD_cons_zero,List.getD_cons_succ,slu_t];obtain⟨G,g,vcc,W9⟩:=e;have h2:=(J2 rfl).out;change LdA W0 W9 K6 K9 W0.heap.size (.slice (some ⟨g,0,none⟩) (N+1) vcc) (.slice (some ⟨g,0,none⟩) (N+1) vcc) (N+1) xs [.int .i64 qk,.string qx,.string qa,.slice qd ql qc] KS #[.int .i64 qk,.string qx,.string qa,.slice qd ql qc] Q1 at h2;change Hid (_/\_/\KeepsOthers W W9)at JB;have hlo:=h2.lo;refine⟨JB.out.2.2.from _,⟨?_,?_,?_⟩,⟨?_,?_⟩,hlo⟩
    ·exact(hlo.block KL (by omega) (by omega)).trans (hLo.block KL (by omega) (by omega)).symm
    ·exact(hlo.block b (by omega) (by omega)).trans (hLo.block b (by omega) (by omega)).symm
    ·exact HSW.out _ JB.out.2.2.size
    ·intro y hy;rcases List.mem_append.1 hy with hy | hy
     ·exact HOK.out y hy
     ·rw[List.mem_singleton.1 hy];exact hqn2.out.1
    ·rw[List.map_append,<-HKS0.out];show LdI _ _ (KS++[(p x.1.2.2).1]) _;rw[hqn2.out.2];exact ldA_done h2 HN.out
  ·have hqn:(q1 != 0)=true:=by simpa using hq
   have HQ1:Hid ((p x.1.2.2).2.1≠0/\(p x.1.2.2).2=(q1,q2)):=by
    have h:p x.1.2.2=(Q1,q1,q2):=HQ.out.symm;rw[h];exact⟨hq,rfl⟩
   clear hq hkd hown hbt hXR hWb hok HPA HQ hLo
   gi_wp2_with (first | (refine⟨trivial,?_⟩;gi_at_call 17;refine(CallsIn.inRound l (callsIn_wide.2 HPW.out)).mono ?_;rintro e w1 ⟨qk,qx,qa,qd,ql,qc,rfl,HT1,HB1⟩))
   have n9:=two_b w1 #[.int .i64 qk,.string qx,.string qa,.slice qd ql qc] #[.int .i64 q1,.int .i64 q2] 35 32;have hw1s:=HB1.out.size;have hb6':Below W.heap.size W ((w1.alloc (.cells #[.int .i64 qk,.string qx,.string qa,.slice qd ql qc] 35)).alloc (.cells #[.int .i64 q1,.int .i64 q2] 32)):=HB1.out.trans (n9.1.mono HB1.out.size);generalize (w1.alloc (.cells #[.int .i64 qk,.string qx,.string qa,.slice qd ql qc] 35)).alloc (.cells #[.int .i64 q1,.int .i64 q2] 32)=W6 at n9 hb6' |-;have N10:Hid (Bx W6 (w1.heap.size+1) #[.int .i64 q1,.int .i64 q2] 32):=n9.2.2;have HB6:Hid (Below W.heap.size W W6):=hb6';have hl1:B1<W.heap.size:=HX0.out.2.lt;obtain⟨K10,hK10⟩:∃ K,K=w1.heap.size+1:=⟨_,rfl⟩;have hk10:B1<K10:=by omega
   rw[<-hK10]at N10
   try rw[<-hK10]
   clear n9 hb6' hw1s hK10 HT1 HB1 HPW;have H6:Hid (LrS w W6 B0 B1):=⟨HX0.out.1.later HB6.out,HX0.out.2.later HB6.out,HBW.out.trans (HB6.out.mono HBW.out.size),nw0,n01⟩;obtain⟨f0,f1⟩:=N10.out.c2;have d0:W6.cell? ⟨B0,0,none⟩=some (.slice none 0 0):=H6.out.b0.cell 0;obtain⟨d1,d2⟩:=H6.out.b1.c2;have z0:=H6.out.b0.fz 0;have z1:=H6.out.b1.fz 0;have z2:=H6.out.b1.fz 1;have m0:B0≠K10:=by omega
   have m1:B1≠K10:=by omega
   have m2:B0≠B1:=by omega
   have HF:Hid (_/\_/\_):=H6.out.fill (.slice none 0 0) (.int .i64 q1) (.int .i64 q2);have HKS:Hid (KeepsOthers W (fl3 W6 B0 B1 (.slice none 0 0) (.int .i64 q1) (.int .i64 q2))):=(KeepsOthers.of_grownBy (grown_of_below HB6.out) (fun j o e=>by cases e)).trans (((KeepsOthers.setCell _ _ _).trans (KeepsOthers.setCell _ _ _)).trans (KeepsOthers.setCell _ _ _));clear H6 N10 HB6
   gi_wp2
   gi_region
   all_goals
    gi_wp2
    change ownPostG _ _ _ _ _ _ _ _ (fl3 W6 B0 B1 (.slice none 0 0) (.int .i64 q1) (.int .i64 q2)).drew;generalize fl3 W6 B0 B1 (.slice none 0 0) (.int .i64 q1) (.int .i64 q2)=W9 at HF HKS |-;have hkd:KeepsOthers W W9.drew:=⟨HKS.out.size,HKS.out.same⟩;refine⟨hkd.from _,⟨rfl,pre,x,rfl,HOK.out,HQ1.out.1,HF.out.1.cell 0,?_,?_⟩,HF.out.2.2.drew⟩
    ·rw[HQ1.out.2];exact HF.out.2.1.cell 0
    ·rw[HQ1.out.2];exact HF.out.2.1.cell 1
 case done =>
  rintro D ys W hD hys ⟨⟨hok,v,xs,hbt,hown,hkd⟩,hLo⟩ hK;obtain⟨n,hn⟩:∃ n,n=(ys.map fun x=>(p x.1.2.2).1).length:=⟨_,rfl⟩;rw[<-hn]at hown;obtain⟨va,vc,rfl⟩:=slice_of_own hown
  have HR:Hid (ldG p ((docs (rwW s)).map fun d=>d.2) []=(ys.map fun x=>(p x.1.2.2).1,0,0)):=by
   show _=_
   have e:(docs (rwW s)).map (fun d=>d.2)=ys.map fun x=>x.1.2.2:=by
    rw[<-HRW.out,<-hys,List.map_map];rfl
   rw[e,ldG_done _ _ (fun d hd=>by obtain⟨x,hx,rfl⟩:=List.mem_map.1 hd;exact hok x hx),List.map_map,List.nil_append];rfl
  have hwB0:=hB0.size;have hX0:Bx W B0 #[.slice none 0 0] 29:=hLo.bx HL0.out.1 (by omega) (by omega);have hX1:Bx W B1 #[.int .i64 0,.int .i64 0] 32:=hLo.bx HL0.out.2 (by omega) (by omega);have H6:Hid (LrS w W B0 B1):=⟨hX0,hX1,hLo.below hB0 (by omega) (by omega),nw0,n01⟩;have t0:W.cell? ⟨K6,0,none⟩=some (.slice va n vc):=hbt.cell 0;have d0:W.cell? ⟨B0,0,none⟩=some (.slice none 0 0):=hX0.cell 0;obtain⟨d1,d2⟩:=hX1.c2;have z0:=hX0.fz 0;have z1:=hX1.fz 0;have z2:=hX1.fz 1;have m2:B0≠B1:=by omega
  have HF:Hid (_/\_/\_):=H6.out.fill (.slice va n vc) (.int .i64 0) (.int .i64 0);have HKS:Hid (KeepsOthers W (fl3 W B0 B1 (.slice va n vc) (.int .i64 0) (.int .i64 0))):=((KeepsOthers.setCell _ _ _).trans (KeepsOthers.setCell _ _ _)).trans (KeepsOthers.setCell _ _ _)
  have hkp:∀ j,W0.heap.size<=j->(fl3 W B0 B1 (.slice va n vc) (.int .i64 0) (.int .i64 0)).heap[j]?=W.heap[j]?:=fun j hj=>by
   unfold fl3;rw[Below.heap_setCell _ _ _ _ (fun e=>by simp only at e;omega),Below.heap_setCell _ _ _ _ (fun e=>by simp only at e;omega),Below.heap_setCell _ _ _ _ (fun e=>by simp only at e;omega)]
  have hsz:W.heap.size<=(fl3 W B0 B1 (.slice va n vc) (.int .i64 0) (.int .i64 0)).heap.size:=by unfold fl3;simp only[World.size_setCell];exact Nat.le_refl _
  have HOW:Hid ((fl3 W B0 B1 (.slice va n vc) (.int .i64 0) (.int .i64 0)).ownsRow W0.heap.size 35 4 (.slice va n vc) n xs/\KdQ (Out W0.heap.size (.slice va n vc)) (fl3 W B0 B1 (.slice va n vc) (.int .i64 0) (.int .i64 0)) 129 xs (ys.map fun x=>(p x.1.2.2).1)):=⟨own_keep hown (fun j hj _=>hkp j hj),hkd.keep hsz (fun j a _=>hkp j a.1)⟩;have HN:Hid (n=(ys.map fun x=>(p x.1.2.2).1).length):=hn;have HWD:Hid (w.heap.size<=D):=by show _<=_;omega
  clear hX0 hX1 hbt hown hkd hok hn hys hkp hsz H6 hLo
  gi_wp2
  change LeavesInM _ _ _ _ _ _ _ _ (fl3 W B0 B1 (.slice va n vc) (.int .i64 0) (.int .i64 0));have hK':=HKS.out.same D _ hK rfl;generalize fl3 W B0 B1 (.slice va n vc) (.int .i64 0) (.int .i64 0)=W9 at HF HOW hK' |-;refine⟨by simp,.inl ⟨_,_,rfl,run_takeDeferred hK',?_⟩⟩;have hgp:=grownBy_putObj' W9 D (.deferred none);have hrp:∀ r,some D=some r->∃ o:Obj,W9.heap[r]?=some o/\o.isCells=false:=fun r e=>by cases e;exact⟨_,hK',rfl⟩
  have g0:=cell_kept (HF.out.1.cell 0) hgp hrp;have g1:=cell_kept (HF.out.2.1.cell 0) hgp hrp;have g2:=cell_kept (HF.out.2.1.cell 1) hgp hrp;have HKA:=kat_own (own_kept HOW.out.1 hgp hrp) (kdq_kept HOW.out.2 hgp hrp) (fun j a=>a.1) HN.out;refine⟨.tuple #[.slice va n vc,.agg #[.int .i64 0,.int .i64 0]],by simp[results,Tryz.results14,go_sem,g0,g1,g2],?_⟩;show LdRes _ _ _ _;rw[HR.out];refine⟨va,vc,by rw[<-HN.out],?_,HF.out.2.2.trans (belowK_b (w:=w) (Nat.le_refl _) _ D _ _ HWD.out hK' rfl rfl)⟩;show KAtP _ _ _ (ys.map fun x=>(p x.1.2.2).1).length _/\(ys.map fun x=>(p x.1.2.2).1).length<=_/\_;rw[<-HN.out];exact⟨HKA.1.mono (by omega),HKA.2⟩
 case stop =>
  rintro D c pre W hD hpre ⟨⟨rfl,q,x,rfl,hq,hx,c0,c1,c2⟩,hB⟩ hK
  have HR:Hid (ldG p ((docs (rwW s)).map fun d=>d.2) []=([],(p x.1.2.2).2)):=by
   obtain⟨t,ht⟩:=hpre;show _=_
   have e:(docs (rwW s)).map (fun d=>d.2)=(q.map fun x=>x.1.2.2)++x.1.2.2::t.map (fun d=>d.2):=by
    rw[<-HRW.out,<-ht,List.map_append,List.map_append,List.map_append,List.map_map,List.append_assoc];rfl
   rw[e];exact ldG_stop _ _ _ _ (fun d hd=>by obtain⟨y,hy,rfl⟩:=List.mem_map.1 hd;exact hq y hy) hx
  have HWD:Hid (w.heap.size<=D):=by have:=hB0.size;show _<=_;omega
  generalize (p x.1.2.2).2=F at *;obtain⟨f1,f3⟩:=F;dsimp only at c1 c2;clear hpre hx hq
  gi_wp2
  refine⟨by simp,.inl ⟨_,_,rfl,run_takeDeferred hK,?_⟩⟩;have hgp:=grownBy_putObj' W D (.deferred none);have hrp:∀ r,some D=some r->∃ o:Obj,W.heap[r]?=some o/\o.isCells=false:=fun r e=>by cases e;exact⟨_,hK,rfl⟩
  have g0:=cell_kept c0 hgp hrp;have g1:=cell_kept c1 hgp hrp;have g2:=cell_kept c2 hgp hrp;refine⟨.tuple #[.slice none 0 0,.agg #[.int .i64 f1,.int .i64 f3]],by simp[results,Tryz.results14,go_sem,g0,g1,g2],?_⟩;show LdRes _ _ _ _;rw[HR.out];exact⟨none,0,rfl,⟨kat_nil _,Nat.le_refl _,Nat.zero_le _⟩,hB.trans (belowK_b (w:=w) (Nat.le_refl _) _ D _ _ HWD.out hK rfl rfl)⟩
end Lod
end Go.Proofs.YtalijhclfppohaaGreatDoor
