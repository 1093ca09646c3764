/- . -/
import Derived.Test.YtidhpmcmbooaoaaGreatDoorR44QuotePut
import Derived.Test.YtidhpmcmbooaoaaGreatDoorR45TreeRof
import Derived.Test.YtidhpmcmbooaoaaGreatDoorR46FlowWr
import Derived.Deep.Cut
set_option linter.unusedSimpArgs false
set_option linter.unusedVariables false
set_option maxRecDepth 100000
namespace Go.Proofs.YtidhpmcmbooaoaaGreatDoor
namespace Tre
open Utf Rws Pln Flw
open Go.RowKit
open Blk (Rw RwAt z3 StrsAt rC rowV rowV_app rw_own cell_three row_one)
set_option maxHeartbeats 4000000
def zr (l:List (Int × Ln)):List Rw:=l.map fun p=>(p.1,p.2,0)
theorem zr_app (a b:List (Int × Ln)):zr (a++b)=zr a++zr b:=by simp[zr]
def Lo (W w:World) (u:Value) (P:List (Int × Ln)):Prop:=Below W.heap.size W w/\w.ownsRow W.heap.size 45 3 u P.length (rowV (zr P))
theorem Lo.later {W w w':World} {u:Value} {P:List (Int × Ln)} (h:Lo W w u P) (hb:Below w.heap.size w w'):Lo W w' u P:=⟨h.1.trans (hb.mono h.1.size),Blk.own_later h.2 hb⟩
theorem Lo.snoc {W w w5:World} {u v':Value} {P:List (Int × Ln)} {c:Int} {y:Ln} (h:Lo W w u P) (ho:w5.ownsRow W.heap.size 45 3 v' (P.length+1) (rowV (zr P)++[.int .i64 c,.string (mk y),.int .i64 0])) (hg:w.grownBy w5 u.ownBlock):Lo W w5 v' (P++[(c,y)]):=by
 refine⟨⟨hg.os.trans h.1.os,hg.tape.trans h.1.tape,hg.output.trans h.1.output,Nat.le_trans h.1.size hg.size,fun k hk=>(hg.block k (by have:=h.1.size;omega) (fun e=> ?_)).trans (h.1.block k hk)⟩,?_⟩
 ·rcases h.2.2 with ⟨e2,_⟩ | ⟨g,_,_,e2,hg,_⟩
  ·rw[e2]at e;cases e
  ·rw[e2]at e;cases e;exact absurd hk (Nat.not_lt.2 hg)
 ·rw[zr_app,rowV_app,List.length_append];exact ho
structure Gw (w w':World) (u v:Value):Prop where
 g:w.grownBy w' u.ownBlock
 o:v.ownBlock=u.ownBlock\/∃ g,v.ownBlock=some g/\w.heap.size<=g
theorem Gw.below {w w':World} (u:Value) (h:Below w.heap.size w w'):Gw w w' u u:=⟨⟨h.os,h.tape,h.output,h.size,fun k hk _=>h.block k hk⟩,.inl rfl⟩
theorem Gw.trans {w w1 w2:World} {u v x:Value} (h:Gw w w1 u v) (h2:Gw w1 w2 v x):Gw w w2 u x:=by
 refine⟨⟨h2.g.os.trans h.g.os,h2.g.tape.trans h.g.tape,h2.g.output.trans h.g.output,Nat.le_trans h.g.size h2.g.size,fun k hk hn=> ?_⟩,?_⟩
 ·refine(h2.g.block k (Nat.lt_of_lt_of_le hk h.g.size) ?_).trans (h.g.block k hk hn);rcases h.o with e | ⟨g,e,hg⟩
  ·rw[e];exact hn
  ·rw[e];intro e2;cases e2;omega
 ·rcases h2.o with e | ⟨g,e,hg⟩
  ·rw[e];exact h.o
  ·exact .inr ⟨g,e,Nat.le_trans h.g.size hg⟩
theorem Gw.snoc {w w5:World} {u v':Value} {n:Nat} (hg:w.grownBy w5 u.ownBlock) (ha:v'.ownBlock=u.ownBlock\/v'.ownBlock=some n) (hn:w.heap.size<=n):Gw w w5 u v':=⟨hg,ha.elim .inl fun e=>.inr ⟨_,e,hn⟩⟩
theorem Gw.bx {w w':World} {u v:Value} {W:World} {K:Nat} {cs:Array Value} {P:List (Int × Ln)} (h:Gw w w' u v) (hb:Bx w K cs 24) (ho:Lo W w u P):Bx w' K cs 24:=by
 have hK:K<w.heap.size:=(Array.getElem?_eq_some_iff.1 hb).1;refine(h.g.block K hK (fun e=> ?_)).trans hb;rcases ho.2.2 with ⟨e2,_⟩ | ⟨g,cap,cur,e2,_,hg,_⟩
 ·rw[e2]at e;cases e
 ·rw[e2]at e;cases e;have:=hg.symm.trans hb;simp at this
theorem three_one {c:Int} {y:ByteArray}:∀ u∈[Value.int .i64 c,.string y,.int .i64 0],u.oneCell'=true:=by
 intro u hu;simp only[List.mem_cons,List.not_mem_nil,or_false]at hu;rcases hu with rfl | rfl | rfl<;>rfl
theorem lay_leaf (k:Int) (x a:Ln) (ad:Option Addr) (cap:Nat) (W w:World) (c:Nat) (u:Value) (P:List (Int × Ln)) (y:Ln) (hP:P.length<=1000000) (hal:a.length<=65536)
  (HWr:Hid (∀ w,Below W.heap.size W w->Calls Tryz.prog 10 #[.agg #[.int .i64 k,.string (mk x),.string (mk a),.slice ad 0 cap]] w fun e w'=>e=.returned (.tuple #[.string (mk y),.int .i64 0])/\Hid (Below w.heap.size w w')))
  (HB:Hid (Lo W w u P)) :
  Calls Tryz.prog 13 #[.agg #[.int .i64 k,.string (mk x),.string (mk a),.slice ad 0 cap],.int .i64 (c:Int),u] w fun e w'=>∃ v',e=.returned v'/\Hid (Lo W w' v' (P++[((c:Int),y)])/\Gw w w' u v'):=by
 obtain⟨it,hi,hz0,hz1,hz2⟩:=info_parts infoRowT;have hsz:(mk a).size=a.length:=mk_size a;have HB1:Hid (Lo W (w.alloc (.cells #[.int .i64 k,.string (mk x),.string (mk a),.slice ad 0 cap] 24)) u P):=HB.out.later (below_alloc w _);have HG1:Hid (Gw w (w.alloc (.cells #[.int .i64 k,.string (mk x),.string (mk a),.slice ad 0 cap] 24)) u u):=Gw.below u (below_alloc w _);have HX:Hid (Bx (w.alloc (.cells #[.int .i64 k,.string (mk x),.string (mk a),.slice ad 0 cap] 24)) w.heap.size #[.int .i64 k,.string (mk x),.string (mk a),.slice ad 0 cap] 24):=Bx.new _ _ _;have hE:((mk a).toList==[])=(a==[]):=by rw[ByteArray.toList_eq,mk_data]
 by_cases ha:a=[]
 case' pos =>
  rw[show (a==[])=true by rw[ha];rfl]at hE;clear ha
 case' neg =>
  rw[show (a==[])=false by simpa using ha]at hE;clear ha;obtain⟨b,hk⟩:∃ b,(k != 7)=b:=⟨_,rfl⟩
 all_goals
  go_enter Tryz.func13,Tryz.ntmps13;go_upto_region 1 with fail
  generalize w.alloc (.cells #[.int .i64 k,.string (mk x),.string (mk a),.slice ad 0 cap] 24)=W1 at HB1 HG1 HX |-;generalize w.heap.size=K at HX |-;obtain⟨k0,k1,k2,k3⟩:=HX.out.c4;go_upto_region 4 with fail
  all_goals
   go_wp2_with fail;refine(HWr.out _ HB1.out.1).mono ?_;rintro e w4 ⟨rfl,h4⟩;have HB4:Hid (Lo W w4 u P):=HB1.out.later h4.out;have HG5:Hid (Gw w (w4.alloc (.cells #[.int .i64 (c:Int),.string (mk y),.int .i64 0] 45)) u u):=(HG1.out.trans (Gw.below u h4.out)).trans (Gw.below u (below_alloc w4 _));clear h4 k0 k1 k2 k3 HX HB1 HB HWr HG1;have HB5:Hid (Lo W (w4.alloc (.cells #[.int .i64 (c:Int),.string (mk y),.int .i64 0] 45)) u P):=HB4.out.later (below_alloc w4 _);have HX7:Hid (Bx (w4.alloc (.cells #[.int .i64 (c:Int),.string (mk y),.int .i64 0] 45)) w4.heap.size #[.int .i64 (c:Int),.string (mk y),.int .i64 0] 45):=Bx.new _ _ _;have hml:P.length+1<=maxLen:=by unfold maxLen;omega
   have hbs:(P.length+1)*32<=140737488355328:=by omega
   have hbase:W.heap.size<=(w4.alloc (.cells #[.int .i64 (c:Int),.string (mk y),.int .i64 0] 45)).heap.size:=HB5.out.1.size;go_wp2_with (at_builtin;refine wpList_append_own_at _ rfl _ _ 28 rfl W.heap.size 45 it (.agg #[.int .i64 0,.string ⟨#[]⟩,.int .i64 0]) 3 32 Tryz.underlying28 hi hz0 hz1 hz2 rfl (by decide) u P.length (rowV (zr P)) rfl HB5.out.2 ⟨w4.heap.size,0,none⟩ 1 1 [.int .i64 (c:Int),.string (mk y),.int .i64 0] rfl rfl (fun jj u hjj=>by rw[show (⟨w4.heap.size,0,none⟩:Addr).add jj=⟨w4.heap.size,jj,none⟩from by simp[Addr.add];exact fun h=>h.symm,HX7.out.cell jj];simpa using hjj) three_one hml hbs hbase ?_);intro v' w5 hown5 hgr5 _ hat5;have HF:Hid (Lo W w5 v' (P++[((c:Int),y)])/\Gw w w5 u v'):=⟨HB5.out.snoc hown5 hgr5,HG5.out.trans (Gw.snoc hgr5 hat5 (by rw[World.size_alloc];exact Nat.le_refl _))⟩;clear hown5 hgr5 hat5 HB5 HX7 hbase HG5;go_wp2_with fail;go_ret;exact⟨_,rfl,HF⟩
def lyG (mp:Bool) (f:Tr->List (Int × Ln)) (c:Int) (ks:List Tr):List (Int × Ln):=if mp=true then lyM f c ks else lyS f c ks
theorem lyG_seq {f:Tr->List (Int × Ln)} {c:Int} {ks:List Tr} {j:Nat} (h:j<ks.length):lyG false f c (ks.drop j)=(c,[45])::(f (ks.getD j tr0)++lyG false f c (ks.drop (j+1))):=by
 have e:ks.drop j=ks.getD j tr0::ks.drop (j+1):=by rw[List.getD_eq_getElem?_getD,List.getElem?_eq_getElem h,Option.getD_some,List.getElem_cons_drop]
 rw[e];rfl
theorem lyG_map {f:Tr->List (Int × Ln)} {c:Int} {ks:List Tr} {j:Nat} (h:j+1<ks.length):lyG true f c (ks.drop j)=(c,wrt 64 (ks.getD j tr0)++[58])::(f (ks.getD (j+1) tr0)++lyG true f c (ks.drop (j+1+1))):=by
 have e:ks.drop j=ks.getD j tr0::ks.drop (j+1):=by rw[List.getD_eq_getElem?_getD,List.getElem?_eq_getElem (by omega),Option.getD_some,List.getElem_cons_drop]
 have e2:ks.drop (j+1)=ks.getD (j+1) tr0::ks.drop (j+1+1):=by rw[List.getD_eq_getElem?_getD,List.getElem?_eq_getElem h,Option.getD_some,List.getElem_cons_drop]
 rw[e,e2];rfl
theorem Lo.len {W w:World} {u:Value} {P:List (Int × Ln)} (h:Lo W w u P):True:=trivial
def Ev (mp:Bool) (j:Nat):Prop:=mp=true->j % 2=0
def lyP (a:Ln) (c:Int):List (Int × Ln):=if a=[]then []else [(c,38::a)]
theorem lay_list (k:Int) (mp:Bool) (x a:Ln) (b off len cap:Nat) (W w:World) (c C:Nat) (u:Value) (P:List (Int × Ln)) (f:Tr->List (Int × Ln)) (d:Nat) (ks:List Tr) (hal:a.length<=65536) (hlen0:0<len) (hlm:len<=9223372036854775807) (hc:c<=1000000)
  (HM:Hid (mp=(k==6)/\(k==7)=false/\(mp=true->len % 2=0)/\C=if a=[]then c else c+1))
  (HK:Hid (KAt W d (some ⟨b,off,none⟩) len ks))
  (HWr:Hid (∀ j v w,mp=true->j % 2=0->j<ks.length->TrV W d v (ks.getD j tr0)->Below W.heap.size W w->Calls Tryz.prog 10 #[v] w fun e w'=>e=.returned (.tuple #[.string (mk (wrt 64 (ks.getD j tr0))),.int .i64 0])/\Hid (Below w.heap.size w w'/\(wrt 64 (ks.getD j tr0)).length<=40000)))
  (HLy:Hid (∀ j v w ov Q,j<ks.length->TrV W d v (ks.getD j tr0)->Lo W w ov Q->Q.length+(f (ks.getD j tr0)).length<=1000000->Calls Tryz.prog 13 #[v,.int .i64 ((C:Int)+2),ov] w fun e w'=>∃ v',e=.returned v'/\Hid (Lo W w' v' (Q++f (ks.getD j tr0))/\Gw w w' ov v')))
  (HT:Hid (P.length+(lyP a (c:Int)).length+(lyG mp f C ks).length<=1000000))
  (HB:Hid (Lo W w u P)) :
  Calls Tryz.prog 13 #[.agg #[.int .i64 k,.string (mk x),.string (mk a),.slice (some ⟨b,off,none⟩) len cap],.int .i64 (c:Int),u] w fun e w'=>∃ v',e=.returned v'/\Hid (Lo W w' v' (P++(lyP a (c:Int)++lyG mp f C ks))/\Gw w w' u v'):=by
 obtain⟨it,hi,hz0,hz1,hz2⟩:=info_parts infoRowT;have hsz:(mk a).size=a.length:=mk_size a;have HB1:Hid (Lo W (w.alloc (.cells #[.int .i64 k,.string (mk x),.string (mk a),.slice (some ⟨b,off,none⟩) len cap] 24)) u P):=HB.out.later (below_alloc w _);have HG1:Hid (Gw w (w.alloc (.cells #[.int .i64 k,.string (mk x),.string (mk a),.slice (some ⟨b,off,none⟩) len cap] 24)) u u):=Gw.below u (below_alloc w _);have HX:Hid (Bx (w.alloc (.cells #[.int .i64 k,.string (mk x),.string (mk a),.slice (some ⟨b,off,none⟩) len cap] 24)) w.heap.size #[.int .i64 k,.string (mk x),.string (mk a),.slice (some ⟨b,off,none⟩) len cap] 24):=Bx.new _ _ _;have hE:((mk a).toList==[])=(a==[]):=by rw[ByteArray.toList_eq,mk_data]
 have hk7:(k==7)=false:=HM.out.2.1;have hk7n:(k != 7)=true:=by unfold bne;rw[hk7];rfl
 have hk6:(k==6)=mp:=HM.out.1.symm;have hl0:((len:Int)==0)=false:=by rw[beq_eq_false_iff_ne];omega
 have hCb:C<=1000001:=by have:=HM.out.2.2.2;split at this<;>omega
 -- the rows ahead of the loop
 have HGO:Hid (∀ (w2:World) (u2:Value) (P2:List (Int × Ln)) (tm:Act) (Q':Exit->Act->World->Prop),True):=fun _ _ _ _ _=>trivial
 by_cases ha:a=[]
 case' pos =>
  have HCC:Hid (C=c):=by have:=HM.out.2.2.2;rwa [if_pos ha]at this
  have HRS:Hid (∀ v' w',Lo W w' v' (P++lyG mp f C ks)->Lo W w' v' (P++(lyP a (c:Int)++lyG mp f C ks))):=fun v' w' h=>by unfold lyP;rw[if_pos ha];exact h
  obtain rfl:C=c:=HCC.out;rw[show (a==[])=true by rw[ha];rfl]at hE;clear HGO ha;go_enter Tryz.func13,Tryz.ntmps13;go_upto_region 1 with fail
  generalize w.alloc (.cells #[.int .i64 k,.string (mk x),.string (mk a),.slice (some ⟨b,off,none⟩) len cap] 24)=W1 at HB1 HG1 HX |-;generalize w.heap.size=K at HX |-;obtain⟨k0,k1,k2,k3⟩:=HX.out.c4;go_upto_region 7 with fail
  clear k0 k1 k2 k3 hE;obtain⟨P2,HP2⟩:∃ P2,Hid (P2=P):=⟨_,rfl⟩;obtain⟨u2,HU2⟩:∃ u2,Hid (u2=u):=⟨_,rfl⟩;have HST:Hid (Lo W W1 u2 P2/\Gw w W1 u u2/\Bx W1 K #[.int .i64 k,.string (mk x),.string (mk a),.slice (some ⟨b,off,none⟩) len cap] 24):=by rw[HP2.out,HU2.out];exact⟨HB1.out,HG1.out,HX.out⟩
  have HT2:Hid ((P2++lyG mp f C ks).length<=1000000):=by have:=HT.out;rw[HP2.out,List.length_append];show _<=_;omega
  have HRS2:Hid (∀ v' w',Lo W w' v' (P2++lyG mp f C ks)->Lo W w' v' (P++(lyP a (C:Int)++lyG mp f C ks))):=by rw[HP2.out];exact HRS.out
  clear HRS;go_upto_region 10 with fail
  rw[<-HU2.out];obtain⟨W2,HW2⟩:∃ W2,Hid (W2=W1):=⟨_,rfl⟩;rw[<-HW2.out]at HST |-
 case' neg =>
  have HCC:Hid (C=c+1):=by have:=HM.out.2.2.2;rwa [if_neg ha]at this
  have HRS:Hid (∀ v' w',Lo W w' v' ((P++[((c:Int),38::a)])++lyG mp f C ks)->Lo W w' v' (P++(lyP a (c:Int)++lyG mp f C ks))):=fun v' w' h=>by unfold lyP;rw[if_neg ha,<-List.append_assoc];exact h
  rw[show (a==[])=false by simpa using ha]at hE;have hPl:P.length+1<=1000000:=by have:=HT.out;unfold lyP at this;rw[if_neg ha,List.length_cons]at this;omega
  have HPL1:Hid ((lyP a (c:Int)).length=1):=by unfold lyP;rw[if_neg ha];rfl
  clear HGO ha;go_enter Tryz.func13,Tryz.ntmps13;go_upto_region 1 with fail
  generalize w.alloc (.cells #[.int .i64 k,.string (mk x),.string (mk a),.slice (some ⟨b,off,none⟩) len cap] 24)=W1 at HB1 HG1 HX |-;generalize w.heap.size=K at HX |-;obtain⟨k0,k1,k2,k3⟩:=HX.out.c4;go_upto_region 7 with fail
  clear k0 k1 k2 k3 hE
  have h38:(⟨#[38]⟩++mk a:ByteArray)=mk (38::a):=by
   rw[show (⟨#[38]⟩:ByteArray)=mk [38]from rfl];apply ByteArray.ext;apply Array.ext';simp[mk]
  have h38e:((⟨#[38]⟩++mk a:ByteArray).toList==[])=false:=by rw[h38,ByteArray.toList_eq,mk_data];rfl
  generalize hS:(⟨#[38]⟩++mk a:ByteArray)=S at h38 h38e |-;clear hS;subst h38;have HB5:Hid (Lo W (W1.alloc (.cells #[.int .i64 (c:Int),.string (mk (38::a)),.int .i64 0] 45)) u P):=HB1.out.later (below_alloc W1 _);have HG5:Hid (Gw w (W1.alloc (.cells #[.int .i64 (c:Int),.string (mk (38::a)),.int .i64 0] 45)) u u):=HG1.out.trans (Gw.below _ (below_alloc W1 _));have HK5:Hid (Bx (W1.alloc (.cells #[.int .i64 (c:Int),.string (mk (38::a)),.int .i64 0] 45)) K #[.int .i64 k,.string (mk x),.string (mk a),.slice (some ⟨b,off,none⟩) len cap] 24):=HX.out.later (below_alloc W1 _);have HX7:Hid (Bx (W1.alloc (.cells #[.int .i64 (c:Int),.string (mk (38::a)),.int .i64 0] 45)) W1.heap.size #[.int .i64 (c:Int),.string (mk (38::a)),.int .i64 0] 45):=Bx.new _ _ _;have hml:P.length+1<=maxLen:=by unfold maxLen;omega
  have hbs:(P.length+1)*32<=140737488355328:=by omega
  have hbase:W.heap.size<=(W1.alloc (.cells #[.int .i64 (c:Int),.string (mk (38::a)),.int .i64 0] 45)).heap.size:=HB5.out.1.size;go_wp2_with (at_builtin;refine wpList_append_own_at _ rfl _ _ 28 rfl W.heap.size 45 it (.agg #[.int .i64 0,.string ⟨#[]⟩,.int .i64 0]) 3 32 Tryz.underlying28 hi hz0 hz1 hz2 rfl (by decide) u P.length (rowV (zr P)) rfl HB5.out.2 ⟨W1.heap.size,0,none⟩ 1 1 [.int .i64 (c:Int),.string (mk (38::a)),.int .i64 0] rfl rfl (fun jj u hjj=>by rw[show (⟨W1.heap.size,0,none⟩:Addr).add jj=⟨W1.heap.size,jj,none⟩from by simp[Addr.add];exact fun h=>h.symm,HX7.out.cell jj];simpa using hjj) three_one hml hbs hbase ?_);intro u2 W2 hown5 hgr5 _ hat5
  have HF:Hid (Lo W W2 u2 (P++[((c:Int),38::a)])/\Gw w W2 u u2/\Bx W2 K #[.int .i64 k,.string (mk x),.string (mk a),.slice (some ⟨b,off,none⟩) len cap] 24):=by
   have g:=Gw.snoc (n:=_) hgr5 hat5 (by rw[World.size_alloc];exact Nat.le_refl _);exact⟨HB5.out.snoc hown5 hgr5,HG5.out.trans g,g.bx HK5.out HB5.out⟩
  clear hown5 hgr5 hat5 HB5 HX7 hbase HG5 HK5 hml hbs;have HST:Hid (Lo W W2 u2 (P++[((c:Int),38::a)])/\Gw w W2 u u2/\Bx W2 K #[.int .i64 k,.string (mk x),.string (mk a),.slice (some ⟨b,off,none⟩) len cap] 24):=HF;obtain⟨P2,HP2⟩:∃ P2,Hid (P2=P++[((c:Int),38::a)]):=⟨_,rfl⟩;rw[<-HP2.out]at HST;have HRS2:Hid (∀ v' w',Lo W w' v' (P2++lyG mp f C ks)->Lo W w' v' (P++(lyP a (c:Int)++lyG mp f C ks))):=by rw[HP2.out];exact HRS.out
  clear HRS;have HT2:Hid ((P2++lyG mp f C ks).length<=1000000):=by have:=HT.out;rw[HPL1.out]at this;rw[HP2.out];show _<=_;simp only[List.length_append,List.length_cons,List.length_nil];omega
  clear HF;go_upto_region 10 with fail
  rw[show ((c:Int)+1)=(C:Int) by rw[HCC.out];omega]
 all_goals
  have HEV:Hid (mp=true->len % 2=0):=HM.out.2.2.1;have HLE:Hid (len=ks.length):=HK.out.1;obtain⟨TT,HTT⟩:∃ TT,Hid (TT=P2++lyG mp f C ks):=⟨_,rfl⟩;rw[<-HTT.out]at HT2 HRS2;clear HP2 HCC HB HB1 HG1 HX HT HM
  try clear hPl
  go_wp2_with fail
  go_loopw [2,10] (fun u2 u10 wr=>∃ (j:Nat) (Q:List (Int × Ln)),j<=len/\u10=.int .i64 (j:Int)/\Hid (Lo W wr u2 Q/\Gw w wr u u2/\Bx wr K #[.int .i64 k,.string (mk x),.string (mk a),.slice (some ⟨b,off,none⟩) len cap] 24/\Q++lyG mp f C (ks.drop j)=TT/\Ev mp j)) (fun _ u10 _=>len-(intOf u10).toNat)
  case atStart=>exact⟨0,P2,Nat.zero_le _,rfl,HST.out.1,HST.out.2.1,HST.out.2.2,HTT.out.symm,fun _=>rfl⟩
  case round =>
   obtain⟨j,Q,hj,rfl,HR⟩:=hrel;clear HTT HST;have k0:wr.cell? ⟨K,0,none⟩=some (.int .i64 k):=HR.out.2.2.1.cell 0;have k3:wr.cell? ⟨K,3,none⟩=some (.slice (some ⟨b,off,none⟩) len cap):=HR.out.2.2.1.cell 3;by_cases hlt:j<len
   ·have HJ:Hid (j<ks.length):=by have:=HLE.out;show j<ks.length;omega
    obtain⟨b',off',hbb,hbW,hcell⟩:=HK.out.2 (by omega);cases hbb
    cases mp with
    | false =>
     have HQ:Hid (Q++((C:Int),[45])::(f (ks.getD j tr0)++lyG false f C (ks.drop (j+1)))=TT):=by rw[<-lyG_seq HJ.out];exact HR.out.2.2.2.1
     have HQL:Hid (Q.length+1+(f (ks.getD j tr0)).length<=1000000):=by
      have h1:=HT2.out;rw[<-HQ.out,List.length_append,List.length_cons,List.length_append]at h1;show _<=_;omega
     have hQl:Q.length+1<=1000000:=by have:=HQL.out;omega
     obtain⟨c0,c1,c2,c3,x0,x1,x2,x3,hx⟩:=hcell j hlt;have HV:Hid (TrV W d (.agg #[c0,c1,c2,c3]) (ks.getD j tr0)):=hx;have HXX:Hid (_/\_/\_/\_):=⟨x0,x1,x2,x3⟩;clear hx hcell x0 x1 x2 x3;have HB5:Hid (Lo W (wr.alloc (.cells #[.int .i64 (C:Int),.string (⟨#[45]⟩),.int .i64 0] 45)) u2 Q):=HR.out.1.later (below_alloc wr _);have HG5:Hid (Gw w (wr.alloc (.cells #[.int .i64 (C:Int),.string (⟨#[45]⟩),.int .i64 0] 45)) u u2):=HR.out.2.1.trans (Gw.below _ (below_alloc wr _));have HK5:Hid (Bx (wr.alloc (.cells #[.int .i64 (C:Int),.string (⟨#[45]⟩),.int .i64 0] 45)) K #[.int .i64 k,.string (mk x),.string (mk a),.slice (some ⟨b,off,none⟩) len cap] 24):=HR.out.2.2.1.later (below_alloc wr _);have HX7:Hid (Bx (wr.alloc (.cells #[.int .i64 (C:Int),.string (⟨#[45]⟩),.int .i64 0] 45)) wr.heap.size #[.int .i64 (C:Int),.string (⟨#[45]⟩),.int .i64 0] 45):=Bx.new _ _ _;have hml:Q.length+1<=maxLen:=by unfold maxLen;omega
     have hbs:(Q.length+1)*32<=140737488355328:=by omega
     have hbase:W.heap.size<=(wr.alloc (.cells #[.int .i64 (C:Int),.string (⟨#[45]⟩),.int .i64 0] 45)).heap.size:=HB5.out.1.size;go_wp2_with (at_builtin;refine wpList_append_own_at _ rfl _ _ 28 rfl W.heap.size 45 it (.agg #[.int .i64 0,.string ⟨#[]⟩,.int .i64 0]) 3 32 Tryz.underlying28 hi hz0 hz1 hz2 rfl (by decide) u2 Q.length (rowV (zr Q)) rfl HB5.out.2 ⟨wr.heap.size,0,none⟩ 1 1 [.int .i64 (C:Int),.string (⟨#[45]⟩),.int .i64 0] rfl rfl (fun jj u hjj=>by rw[show (⟨wr.heap.size,0,none⟩:Addr).add jj=⟨wr.heap.size,jj,none⟩from by simp[Addr.add];exact fun h=>h.symm,HX7.out.cell jj];simpa using hjj) three_one hml hbs hbase ?_);intro u5 w5 hown5 hgr5 _ hat5
     have HF:Hid (Lo W w5 u5 (Q++[((C:Int),[45])])/\Gw w w5 u u5/\Bx w5 K #[.int .i64 k,.string (mk x),.string (mk a),.slice (some ⟨b,off,none⟩) len cap] 24):=by
      have g:=Gw.snoc (n:=_) hgr5 hat5 (by rw[World.size_alloc];exact Nat.le_refl _);exact⟨HB5.out.snoc hown5 hgr5,HG5.out.trans g,g.bx HK5.out HB5.out⟩
     clear hown5 hgr5 hat5 HB5 HX7 hbase HG5 HK5 hml hbs;have x0:=(HF.out.1.1.cell (p:=⟨b,off+j*4,none⟩) hbW).trans HXX.out.1;have x1:=(HF.out.1.1.cell (p:=⟨b,off+j*4+1,none⟩) hbW).trans HXX.out.2.1;have x2:=(HF.out.1.1.cell (p:=⟨b,off+j*4+2,none⟩) hbW).trans HXX.out.2.2.1;have x3:=(HF.out.1.1.cell (p:=⟨b,off+j*4+3,none⟩) hbW).trans HXX.out.2.2.2;have k5:w5.cell? ⟨K,3,none⟩=some (.slice (some ⟨b,off,none⟩) len cap):=HF.out.2.2.cell 3;clear k0 k3 HXX;have HCA:Hid (Calls Tryz.prog 13 #[.agg #[c0,c1,c2,c3],.int .i64 ((C:Int)+2),u5] w5 fun e w'=>∃ v',e=.returned v'/\Hid (Lo W w' v' (Q++[((C:Int),[45])]++f (ks.getD j tr0))/\Gw w5 w' u5 v')):=HLy.out j _ w5 u5 _ HJ.out HV.out HF.out.1 (by have:=HQL.out;simp only[List.length_append,List.length_cons,List.length_nil];omega);go_wp2_with fail;refine HCA.out.mono ?_;rintro e w6 ⟨v6,rfl,H6⟩
     have HN:Hid (Lo W w6 v6 (Q++[((C:Int),[45])]++f (ks.getD j tr0))/\Gw w w6 u v6/\Bx w6 K #[.int .i64 k,.string (mk x),.string (mk a),.slice (some ⟨b,off,none⟩) len cap] 24/\(Q++[((C:Int),[45])]++f (ks.getD j tr0))++lyG false f C (ks.drop (j+1))=TT/\Ev false (j+1)) :=
      ⟨H6.out.1,HF.out.2.1.trans H6.out.2,H6.out.2.bx HF.out.2.2 HF.out.1,by rw[<-HQ.out];simp,fun h=>by cases h⟩
     clear x0 x1 x2 x3 k5 HCA H6 HF HV HQ HQL HR;go_wp2_with fail;go_roundw
     case rel=>first | exact⟨j+1,_,by omega,by go_num,HN⟩ | ((repeat apply Exists.intro);refine⟨⟨j+1,_,by omega,by go_num,HN⟩,?_⟩;rfl)
     case measure=>(simp[intOf]<;>omega)
    | true =>
     obtain⟨hev,HPar⟩:j % 2=0/\Hid (len % 2=0):=⟨HR.out.2.2.2.2 rfl,HEV.out rfl⟩;have hlt2:j+1<len:=by have:=HPar.out;omega
     have HEVJ:Hid (j % 2=0):=hev;clear hev;have HJ2:Hid (j+1<ks.length):=by have:=HLE.out;show j+1<ks.length;omega
     have HQ:Hid (Q++((C:Int),wrt 64 (ks.getD j tr0)++[58])::(f (ks.getD (j+1) tr0)++lyG true f C (ks.drop (j+1+1)))=TT):=by rw[<-lyG_map HJ2.out];exact HR.out.2.2.2.1
     have HQL:Hid (Q.length+1+(f (ks.getD (j+1) tr0)).length<=1000000):=by
      have h1:=HT2.out;rw[<-HQ.out,List.length_append,List.length_cons,List.length_append]at h1;show _<=_;omega
     have hQl:Q.length+1<=1000000:=by have:=HQL.out;omega
     obtain⟨c0,c1,c2,c3,x0,x1,x2,x3,hx⟩:=hcell j hlt;have HV:Hid (TrV W d (.agg #[c0,c1,c2,c3]) (ks.getD j tr0)):=hx;obtain⟨d0,d1,d2,d3,y0,y1,y2,y3,hy⟩:=hcell (j+1) hlt2;have HV2:Hid (TrV W d (.agg #[d0,d1,d2,d3]) (ks.getD (j+1) tr0)):=hy;have HXX:Hid (_/\_/\_/\_):=⟨y0,y1,y2,y3⟩;clear hx hy hcell y0 y1 y2 y3;replace x0:=(HR.out.1.1.cell (p:=⟨b,off+j*4,none⟩) hbW).trans x0;replace x1:=(HR.out.1.1.cell (p:=⟨b,off+j*4+1,none⟩) hbW).trans x1;replace x2:=(HR.out.1.1.cell (p:=⟨b,off+j*4+2,none⟩) hbW).trans x2;replace x3:=(HR.out.1.1.cell (p:=⟨b,off+j*4+3,none⟩) hbW).trans x3;have HCW:=HWr.out j _ wr rfl HEVJ.out HJ.out HV.out HR.out.1.1;obtain⟨S,HS⟩:∃ S,Hid (S=wrt 64 (ks.getD j tr0)):=⟨_,rfl⟩;rw[<-HS.out]at HCW HQ;go_wp2_with fail;refine HCW.mono ?_;rintro e w4 ⟨rfl,H4⟩;have HR4:Hid (Lo W w4 u2 Q/\Gw w w4 u u2/\Bx w4 K #[.int .i64 k,.string (mk x),.string (mk a),.slice (some ⟨b,off,none⟩) len cap] 24):=⟨HR.out.1.later H4.out.1,HR.out.2.1.trans (Gw.below _ H4.out.1),HR.out.2.2.1.later H4.out.1⟩;have hSs:(mk S).size=S.length:=mk_size S;have hSl:S.length<=40000:=H4.out.2
     have h58:(mk S++⟨#[58]⟩:ByteArray)=mk (S++[58]):=by
      rw[show (⟨#[58]⟩:ByteArray)=mk [58]from rfl];apply ByteArray.ext;apply Array.ext';simp[mk]
     have H58:Hid (mk (S++[58])=(mk S++⟨#[58]⟩:ByteArray)):=h58.symm;clear h58 x0 x1 x2 x3 k0 k3 HCW HV H4 HR HEV;have HB5:Hid (Lo W (w4.alloc (.cells #[.int .i64 (C:Int),.string (mk S++⟨#[58]⟩),.int .i64 0] 45)) u2 Q):=HR4.out.1.later (below_alloc w4 _);have HG5:Hid (Gw w (w4.alloc (.cells #[.int .i64 (C:Int),.string (mk S++⟨#[58]⟩),.int .i64 0] 45)) u u2):=HR4.out.2.1.trans (Gw.below _ (below_alloc w4 _));have HK5:Hid (Bx (w4.alloc (.cells #[.int .i64 (C:Int),.string (mk S++⟨#[58]⟩),.int .i64 0] 45)) K #[.int .i64 k,.string (mk x),.string (mk a),.slice (some ⟨b,off,none⟩) len cap] 24):=HR4.out.2.2.later (below_alloc w4 _);have HX7:Hid (Bx (w4.alloc (.cells #[.int .i64 (C:Int),.string (mk S++⟨#[58]⟩),.int .i64 0] 45)) w4.heap.size #[.int .i64 (C:Int),.string (mk S++⟨#[58]⟩),.int .i64 0] 45):=Bx.new _ _ _;have hml:Q.length+1<=maxLen:=by unfold maxLen;omega
     have hbs:(Q.length+1)*32<=140737488355328:=by omega
     have hbase:W.heap.size<=(w4.alloc (.cells #[.int .i64 (C:Int),.string (mk S++⟨#[58]⟩),.int .i64 0] 45)).heap.size:=HB5.out.1.size;go_wp2_with (at_builtin;refine wpList_append_own_at _ rfl _ _ 28 rfl W.heap.size 45 it (.agg #[.int .i64 0,.string ⟨#[]⟩,.int .i64 0]) 3 32 Tryz.underlying28 hi hz0 hz1 hz2 rfl (by decide) u2 Q.length (rowV (zr Q)) rfl HB5.out.2 ⟨w4.heap.size,0,none⟩ 1 1 [.int .i64 (C:Int),.string (mk S++⟨#[58]⟩),.int .i64 0] rfl rfl (fun jj u hjj=>by rw[show (⟨w4.heap.size,0,none⟩:Addr).add jj=⟨w4.heap.size,jj,none⟩from by simp[Addr.add];exact fun h=>h.symm,HX7.out.cell jj];simpa using hjj) three_one hml hbs hbase ?_);intro u5 w5 hown5 hgr5 _ hat5
     have HF:Hid (Lo W w5 u5 (Q++[((C:Int),S++[58])])/\Gw w w5 u u5/\Bx w5 K #[.int .i64 k,.string (mk x),.string (mk a),.slice (some ⟨b,off,none⟩) len cap] 24):=by
      have g:=Gw.snoc (n:=_) hgr5 hat5 (by rw[World.size_alloc];exact Nat.le_refl _);exact⟨HB5.out.snoc hown5 hgr5,HG5.out.trans g,g.bx HK5.out HB5.out⟩
     clear hown5 hgr5 hat5 HB5 HX7 hbase HG5 HK5 hml hbs;have x0:=(HF.out.1.1.cell (p:=⟨b,off+(j+1)*4,none⟩) hbW).trans HXX.out.1;have x1:=(HF.out.1.1.cell (p:=⟨b,off+(j+1)*4+1,none⟩) hbW).trans HXX.out.2.1;have x2:=(HF.out.1.1.cell (p:=⟨b,off+(j+1)*4+2,none⟩) hbW).trans HXX.out.2.2.1;have x3:=(HF.out.1.1.cell (p:=⟨b,off+(j+1)*4+3,none⟩) hbW).trans HXX.out.2.2.2;have k5:w5.cell? ⟨K,3,none⟩=some (.slice (some ⟨b,off,none⟩) len cap):=HF.out.2.2.cell 3;clear HXX;have HCA:Hid (Calls Tryz.prog 13 #[.agg #[d0,d1,d2,d3],.int .i64 ((C:Int)+2),u5] w5 fun e w'=>∃ v',e=.returned v'/\Hid (Lo W w' v' (Q++[((C:Int),S++[58])]++f (ks.getD (j+1) tr0))/\Gw w5 w' u5 v')):=HLy.out (j+1) _ w5 u5 _ HJ2.out HV2.out HF.out.1 (by have:=HQL.out;simp only[List.length_append,List.length_cons,List.length_nil];omega);go_wp2_with fail;refine HCA.out.mono ?_;rintro e w6 ⟨v6,rfl,H6⟩
     have HN:Hid (Lo W w6 v6 (Q++[((C:Int),S++[58])]++f (ks.getD (j+1) tr0))/\Gw w w6 u v6/\Bx w6 K #[.int .i64 k,.string (mk x),.string (mk a),.slice (some ⟨b,off,none⟩) len cap] 24/\(Q++[((C:Int),S++[58])]++f (ks.getD (j+1) tr0))++lyG true f C (ks.drop (j+1+1))=TT/\Ev true (j+1+1)) :=
      ⟨H6.out.1,HF.out.2.1.trans H6.out.2,H6.out.2.bx HF.out.2.2 HF.out.1,by rw[<-HQ.out];simp,fun _=>by have:=HEVJ.out;omega⟩
     clear x0 x1 x2 x3 k5 HCA H6 HF HQ HQL HR4;go_wp2_with fail;go_roundw
     case rel=>first | exact⟨j+1+1,_,by omega,by go_num,HN⟩ | ((repeat apply Exists.intro);refine⟨⟨j+1+1,_,by omega,by go_num,HN⟩,?_⟩;rfl)
     case measure=>(simp[intOf]<;>omega)
   ·have e:j=len:=by omega
    have HFI:Hid (Lo W wr u2 TT/\Gw w wr u u2):=by
     have h:=HR.out.2.2.2.1;rw[List.drop_eq_nil_of_le (by have:=HLE.out;omega),show lyG mp f C []=[] by cases mp<;>rfl,List.append_nil]at h;rw[<-h];exact⟨HR.out.1,HR.out.2.1⟩
    clear HR hj e;go_wp2_with fail;go_ret;exact⟨_,rfl,HRS2.out _ _ HFI.out.1,HFI.out.2⟩
end Tre
namespace Tre
open Utf Rws Pln Flw
open Go.RowKit
open Blk (Rw RwAt z3 StrsAt rC rowV rowV_app rw_own cell_three row_one)
set_option maxHeartbeats 4000000
theorem write_leaf1 {W w:World} {d m:Nat} {v:Value} {t:Tr} (h:TrV W d v t) (hb:Below W.heap.size W w) (hT:Tb W) (hr:rgt m t=true) (hk:t.kids=[]) (hf:fineT d t) :
  Calls Tryz.prog 10 #[v] w fun e w'=>e=.returned (.tuple #[.string (mk (wrt 64 t)),.int .i64 0])/\Below w.heap.size w w':=by
 have h2:TrV w (d+65) v t:=(h.later hb (Nat.le_refl _)).more (by omega);have hl:=leaf_len2 hr hk (fineT_lens hf).1 (fineT_lens hf).2;refine write_yes (brief_of h2 hf) h2 (hT.later hb) (by omega) ?_ (by omega);rw[rgh_iff (by omega),rgt_leaf hr hk,cnt_one 64 t hk];rfl
theorem keysOk_at:∀ (ks:List Tr) (i j:Nat),keysOk i ks=true->j<ks.length->(i+j) % 2=0->isKey (ks.getD j tr0)=true
 | [],_,j,_,h,_=>absurd h (Nat.not_lt_zero _)
 | k::ks,i,0,hk,_,h=>by
  rw[keysOk]at hk;simp only[Bool.and_eq_true]at hk;have:=hk.1;rw[Nat.add_zero]at h;rw[show (i % 2==0)=true by simp[h]]at this;simpa using this
 | k::ks,i,j+1,hk,hj,h=>by
  rw[keysOk]at hk;simp only[Bool.and_eq_true]at hk;have:=keysOk_at ks (i+1) j hk.2 (by simp only[List.length_cons]at hj;omega) (by omega)
  rwa [List.getD_cons_succ]
theorem lay_any:∀ (d m:Nat) (v:Value) (t:Tr) (W w:World) (c:Nat) (u:Value) (P:List (Int × Ln)),rgt m t=true->TrV W d v t->fineT d t->Tb W->Lo W w u P->P.length+(lyo d t (c:Int)).length<=1000000->c+3*cntT d t<=1000000 ->
  Calls Tryz.prog 13 #[v,.int .i64 (c:Int),u] w fun e w'=>∃ v',e=.returned v'/\Hid (Lo W w' v' (P++lyo d t (c:Int))/\Gw w w' u v')
 | 0,m,v,t,W,w,c,u,P,_,h,_,_,_,_,_=>h.elim
 | d+1,m,v,t,W,w,c,u,P,hr,h,hf,hT,hL,hP,hc=>by
  have h0:=h;obtain⟨ad,len,cap,rfl,hl,hcp,hm,hz,hk⟩:=h;have hal:t.anc.length<=65536:=by have:=hf.2.1;omega
  by_cases hks:t.kids=[]
  ·have e:lyo (d+1) t (c:Int)=[((c:Int),wrt 64 t)]:=by rw[lyo,if_pos (by rw[hks];rfl)]
   rw[e]at hP |-;have hl0:len=0:=by rw[hl,hks];rfl
   subst hl0;refine lay_leaf t.kind t.text t.anc ad cap W w c u P (wrt 64 t) (by simp only[List.length_cons,List.length_nil]at hP;omega) hal (fun w1 hb=>(write_leaf1 h0 hb hT hr hks hf).mono (fun e w' g=>g)) hL
  ·have hlp:0<len:=by rw[hl];exact List.length_pos_iff.2 hks
   obtain⟨b,off,rfl,hbW,hcell⟩:=hk hlp;obtain⟨inner,hi⟩:=rgt_step hr;obtain⟨r1,r7,ra,rt,r0,rl⟩:=rstep_inv hi
   have hl56:t.kind=5\/t.kind=6:=by
    by_cases e:t.kind=5\/t.kind=6
    ·exact e
    ·exact absurd (r0 ⟨fun g=>e (.inl g),fun g=>e (.inr g)⟩) hks
   cases m with
   | zero =>
    obtain⟨v,e,_⟩:=(rstep_inv (inner:=none) hr).2.2.2.2.2 hl56;cases e
   | succ m =>
    have hkr:=rgt_kid hr hl56;have hkf:=fineT_kid hf
    have hmem:∀ j,j<t.kids.length->t.kids.getD j tr0∈t.kids:=fun j hj=>by
     rw[List.getD_eq_getElem?_getD,List.getElem?_eq_getElem hj,Option.getD_some];exact List.getElem_mem hj
    obtain⟨C,hC⟩:∃ C:Nat,C=if t.anc=[]then c else c+1:=⟨_,rfl⟩
    have hCi:lyC t (c:Int)=(C:Int):=by
     unfold lyC;rw[hC];split<;>simp
    have hCc:C<=c+1:=by rw[hC];split<;>omega
    have hne:t.kids.isEmpty=false:=by
     cases hq:t.kids.isEmpty with
     | false=>rfl
     | true=>exact absurd (List.isEmpty_iff.1 hq) hks
    have eL:lyo (d+1) t (c:Int)=lyP t.anc (c:Int)++lyG (t.kind==6) (fun k=>lyo d k ((C:Int)+2)) (C:Int) t.kids:=by
     rw[lyo,if_neg (by rw[hne];decide),hCi];unfold lyP lyG;congr 1;by_cases e6:t.kind=6
     ·rw[if_pos e6,if_pos (by simp[e6])]
     ·rw[if_neg e6,if_neg (by simp[e6])]
    rw[eL]at hP |-
    have hev:(t.kind==6)=true->t.kids.length % 2=0/\keysOk 0 t.kids=true:=fun h6=>by
     have e6:t.kind=6:=by simpa using h6
     obtain⟨v,ev,hv,_⟩:=rl (.inr e6);exact hv e6
    refine lay_list t.kind (t.kind==6) t.text t.anc b off len cap W w c C u P (fun k=>lyo d k ((C:Int)+2)) d t.kids hal hlp (by unfold maxLen at hm;omega) (by omega) ?_ ?_ ?_ ?_ ?_ hL
    ·refine⟨rfl,?_,fun h6=> ?_,hC⟩
     ·rw[beq_eq_false_iff_ne];omega
     ·rw[hl];exact(hev h6).1
    ·exact⟨hl,fun _=>⟨b,off,rfl,hbW,hcell⟩⟩
    ·intro j v w1 h6 hj2 hj hv hb;have hik:=keysOk_at t.kids 0 j (hev h6).2 hj (by omega);have hkk:=key_kids (hkr _ (hmem j hj)) hik;refine(write_leaf1 hv hb hT (hkr _ (hmem j hj)) hkk (hkf _ (hmem j hj))).mono (fun e w' g=>⟨g.1,g.2,?_⟩);exact leaf_len2 (hkr _ (hmem j hj)) hkk (fineT_lens (hkf _ (hmem j hj))).1 (fineT_lens (hkf _ (hmem j hj))).2
    ·intro j v w1 ov Q hj hv hLo hQ;have hcm:=cnt_mem (d:=d) (hmem j hj);have:=lay_any d m v _ W w1 (C+2) ov Q (hkr _ (hmem j hj)) hv (hkf _ (hmem j hj)) hT hLo (by rw[show ((C+2:Nat):Int)=(C:Int)+2 by omega];exact hQ) (by omega)
     rwa [show ((C+2:Nat):Int)=(C:Int)+2 by omega]at this
    ·rw[List.length_append]at hP;show _<=_;omega
end Tre
end Go.Proofs.YtidhpmcmbooaoaaGreatDoor
