/- . -/
import Derived.Test.YtalijhclfppohaaGreatDoorR39TreeBel0
import Derived.Test.YtalijhclfppohaaGreatDoorR40TreeIval
import Derived.Test.YtalijhclfppohaaGreatDoorR34TreeKey
import Derived.Deep.RegionWith
import Derived.BigRegionIn
set_option linter.unusedSimpArgs false
set_option linter.unusedVariables false
set_option maxRecDepth 100000
namespace Go.Proofs.YtalijhclfppohaaGreatDoor
namespace Tre
open Utf Rws Pln Flw
open Go.RowKit Go.Shelf
open Blk (Rw RwAt z3)
set_option maxHeartbeats 8000000
attribute [local go_sem] Oper.semAt_some
theorem four_bx (w:World) (c0 c1 c2 c3:Array Value) (t0 t1 t2 t3:TypeId) :
  Below w.heap.size w ((((w.alloc (.cells c0 t0)).alloc (.cells c1 t1)).alloc (.cells c2 t2)).alloc (.cells c3 t3))/\Bx ((((w.alloc (.cells c0 t0)).alloc (.cells c1 t1)).alloc (.cells c2 t2)).alloc (.cells c3 t3)) w.heap.size c0 t0 /\
  Bx ((((w.alloc (.cells c0 t0)).alloc (.cells c1 t1)).alloc (.cells c2 t2)).alloc (.cells c3 t3)) (w.heap.size+1) c1 t1/\Bx ((((w.alloc (.cells c0 t0)).alloc (.cells c1 t1)).alloc (.cells c2 t2)).alloc (.cells c3 t3)) (w.heap.size+1+1) c2 t2 /\
  Bx ((((w.alloc (.cells c0 t0)).alloc (.cells c1 t1)).alloc (.cells c2 t2)).alloc (.cells c3 t3)) (w.heap.size+1+1+1) c3 t3:=by
 have h:=three_new w c0 c1 c2 t0 t1 t2;have s:(((w.alloc (.cells c0 t0)).alloc (.cells c1 t1)).alloc (.cells c2 t2)).heap.size=w.heap.size+1+1+1:=by simp only[World.size_alloc]
 have b:=below_alloc (((w.alloc (.cells c0 t0)).alloc (.cells c1 t1)).alloc (.cells c2 t2)) (.cells c3 t3);have n:=Bx.new (((w.alloc (.cells c0 t0)).alloc (.cells c1 t1)).alloc (.cells c2 t2)) c3 t3;rw[s]at n;exact⟨h.1.trans (b.mono h.1.size),h.2.1.later b,h.2.2.1.later b,h.2.2.2.later b,n⟩
theorem own_ne {w:World} {B K:Nat} {e t:TypeId} {k n:Nat} {v:Value} {xs:List Value} {cs:Array Value} (h:w.ownsRow B e k v n xs) (hb:Bx w K cs t) (hne:e≠t):∀ j,v.ownBlock=some j->j≠K:=by
 intro j hj hk;subst hk;rcases h.2 with ⟨rfl,_⟩ | ⟨g,cap,cur,rfl,_,hh,_⟩
 ·cases hj
 ·cases hj;have:=hh.symm.trans hb;simp only[Option.some.injEq,Obj.cells.injEq]at this;exact hne this.2.1
theorem hdat_of {w:World} {B Bs:Nat} {ha:Option Addr} {n m hcap:Nat} {hs:List Hd} (h:w.ownsRow B 78 5 (.slice ha n hcap) n (hCs hs)) (hn:n=hs.length) (hm:m<=n) (hb:w.cell? ⟨Bs,0,none⟩=some (.slice ha m hcap)):HdAt w Bs ha m hcap (hs.take m):=by
 refine⟨hb,by rw[List.length_take];omega,fun i hi=> ?_⟩;rcases h.2 with ⟨q,h0⟩ | ⟨g,cap,cur,q,_,hh,h1,h2,h3,h4⟩
 ·omega
 ·simp only[Value.slice.injEq]at q
  have hc:∀ j,j<5->w.cell? ⟨g,i*5+j,none⟩=(hC (hs.getD i hd0))[j]?:=fun j hj=>by
   rw[Lib.cell_of_heap hh]
   have e:cur[i*5+j]?=(cur.toList.take (n*5))[i*5+j]?:=by
    rw[List.getElem?_take_of_lt (by omega)];simp
   rw[e,h4]
   have hd:hCs hs=hCs (hs.take i)++(hC (hs.getD i hd0)++hCs (hs.drop (i+1))):=by
    have e1:hs=hs.take i++(hs.getD i hd0::hs.drop (i+1)):=by
     rw[List.getD_eq_getElem?_getD,List.getElem?_eq_getElem (show i<hs.length by omega),Option.getD_some,<-List.drop_eq_getElem_cons,List.take_append_drop]
    conv=>lhs;rw[e1]
    unfold hCs;rw[List.flatMap_append,List.flatMap_cons]
   have hl:(hCs (hs.take i)).length=i*5:=by rw[hCs_len,List.length_take];congr 1;omega
   rw[hd,List.getElem?_append_right (by omega),hl,List.getElem?_append_left (by show i*5+j-i*5<5;omega)];congr 1;omega
  have hg:(hs.take m).getD i hd0=hs.getD i hd0:=by rw[List.getD_eq_getElem?_getD,List.getD_eq_getElem?_getD,List.getElem?_take_of_lt hi]
  rw[hg];exact⟨g,q.1,hc 0 (by decide),hc 1 (by decide),hc 2 (by decide),hc 3 (by decide),hc 4 (by decide)⟩
theorem own_set6 {w:World} {B KT KF n:Nat} {v x0 x1 x2 x3 y0 y1:Value} {xs:List Value} (h:w.ownsRow B 78 5 v n xs) (h1:∀ j,v.ownBlock=some j->j≠KT) (h2:∀ j,v.ownBlock=some j->j≠KF):(fill6 w KT KF x0 x1 x2 x3 y0 y1).ownsRow B 78 5 v n xs:=by
 refine⟨h.1,?_⟩;rcases h.2 with q | ⟨g,cap,cur,rfl,hb,hh,r⟩
 ·exact .inl q
 ·have e1:=h1 g rfl;have e2:=h2 g rfl;refine .inr ⟨g,cap,cur,rfl,hb,?_,r⟩;unfold fill6 fill4;rw[Below.heap_setCell _ _ _ _ e2,Below.heap_setCell _ _ _ _ e2,Below.heap_setCell _ _ _ _ e1,Below.heap_setCell _ _ _ _ e1,Below.heap_setCell _ _ _ _ e1,Below.heap_setCell _ _ _ _ e1];exact hh
structure B9 (w w9:World) (K2 K3 KT KF C d B:Nat) (ha:Option Addr) (hn hcap:Nat) (hs:List Hd) (k2:Int) (x2 a2:ByteArray) (ad2:Option Addr) (len2 cap2:Nat) (r:Tf):Prop where
 bl:Below w.heap.size w w9
 b2:Bx w9 K2 zT 35
 b3:Bx w9 K3 #[.int .i64 0,.int .i64 0] 32
 t:Bx w9 KT #[.int .i64 k2,.string x2,.string a2,.slice ad2 len2 cap2] 35
 f:Bx w9 KF #[.int .i64 r.2.1,.int .i64 r.2.2] 32
 tr:TrP C w9 d (.agg #[.int .i64 k2,.string x2,.string a2,.slice ad2 len2 cap2]) r.1
 own:w9.ownsRow B 78 5 (.slice ha hn hcap) hn (hCs hs)
 hT:KT<C
 hC:C<=w9.heap.size
theorem own_max {w:World} {B n:Nat} {v:Value} {xs:List Value} (h:w.ownsRow B 78 5 v n xs):n<=9223372036854775807:=by
 rcases h.2 with ⟨_,h2⟩ | ⟨_,_,_,_,_,_,h4,h5,_⟩
 ·omega
 ·have:maxLen=9223372036854775807:=rfl;omega
theorem grownB {w w':World} (h:Below w.heap.size w w'):w.grownBy w' none:=⟨h.os,h.tape,h.output,h.size,fun k hk _=>h.block k hk⟩
theorem kph_trans {Bs:Nat} {a:Option Addr} {A B C:World} (h:KpH Bs a A B) (k:KpH Bs a B C):KpH Bs a A C:=⟨k.1.trans h.1,fun g e=>(k.2 g e).trans (h.2 g e)⟩
theorem bx_grown {W W':World} {row:Option Nat} {K:Nat} {cs:Array Value} {t:TypeId} (h:Bx W K cs t) (hg:W.grownBy W' row) (hr:∀ r,row=some r->∃ o:Obj,W.heap[r]?=some o/\o.isCells=false):Bx W' K cs t:=by
 refine(hg.block K h.lt (fun e=> ?_)).trans h;obtain⟨o,ho,hc⟩:=hr K e.symm;rw[h]at ho;cases ho;cases hc
def Nrm {α:Type} (I:α->World->Prop) (F:α->Go.Act):Exit->Go.Act->World->Prop
 | .normal,a,w=>∃ p,I p w/\a=F p
 | _,_,_=>False
theorem wp_thenN {α:Type} {P:Program} {cd:Code} {Q:Exit->Go.Act->World->Prop} {a:Go.Act} {w:World} (F:α->Go.Act) (I:α->World->Prop) (h1:cd.wp P (Nrm I F) a w) (h2:∀ p w',I p w'->Q .normal (F p) w'):cd.wp P Q a w :=
 Code.wp_mono (fun e a w h=>by cases e<;>first | exact h.elim | (obtain⟨p,hi,rfl⟩:=h;exact h2 p w hi)) h1
theorem own_slice {w:World} {B:Nat} {e:TypeId} {k n:Nat} {v:Value} {xs:List Value} (h:w.ownsRow B e k v n xs):∃ a c,v=.slice a n c:=by
 rcases h.2 with ⟨rfl,rfl⟩ | ⟨g,cap,_,rfl,_⟩
 ·exact⟨_,_,rfl⟩
 ·exact⟨_,_,rfl⟩
theorem below_bad (d:Nat) (ar:Int) (c:Int) (x:Ln) (z:Int) (pa:Ln) (pt:Int) (a:Option Addr) (len cap:Nat) (rs:List Rw) (w:World) (hR:RowsIn w a len cap rs) (hlr:rs.length<=1048576) (hq:(hds (decide (ar=64)) (rs.length+1) c rs).2.2.1≠0) :
  Calls Tryz.prog 26 #[.int .i64 ar,rV c x z,.agg #[.string (mk pa),.int .i64 pt],.slice a len cap] w fun e w'=>TfD (d+1) (tr0,(hds (decide (ar=64)) (rs.length+1) c rs).2.2) w e w':=by
 obtain⟨q,HQ⟩:∃ q,Hid (q=(hds (decide (ar=64)) (rs.length+1) c rs)):=⟨_,rfl⟩
 have HHD:Hid (∀ w0,Below w.heap.size w w0->Calls Tryz.prog 40 #[.int .i64 ar,.agg #[.int .i64 c,.string (mk x),.int .i64 z,.string (mk pa),.int .i64 pt],.slice a len cap] w0 fun e w'=>HdRes q ((c,x,z),⟨pa,pt⟩) w0 e w'):=fun w0 hb=>by
  rw[HQ.out];exact heads_any ar ((c,x,z),⟨pa,pt⟩) a len cap rs w0 (hR.later hb) hlr
 have N4:Hid (_/\_/\_/\_/\_):=four_bx w #[.int .i64 c,.string (mk x),.int .i64 z] #[.string (mk pa),.int .i64 pt] zT #[.int .i64 0,.int .i64 0] 52 62 35 32;rw[<-HQ.out]at hq |-;clear hR;go_enter Tryz.func26,Tryz.ntmps26;go_wp2_with fail;change Calls _ _ _ ((((w.alloc (.cells #[.int .i64 c,.string (mk x),.int .i64 z] 52)).alloc (.cells #[.string (mk pa),.int .i64 pt] 62)).alloc (.cells zT 35)).alloc (.cells #[.int .i64 0,.int .i64 0] 32)) _;generalize (((w.alloc (.cells #[.int .i64 c,.string (mk x),.int .i64 z] 52)).alloc (.cells #[.string (mk pa),.int .i64 pt] 62)).alloc (.cells zT 35)).alloc (.cells #[.int .i64 0,.int .i64 0] 32)=W at N4 |-;obtain⟨K3,hK3⟩:∃ K,K=w.heap.size+1+1+1:=⟨_,rfl⟩;obtain⟨K2,hK2⟩:∃ K,K=w.heap.size+1+1:=⟨_,rfl⟩;obtain⟨K1,hK1⟩:∃ K,K=w.heap.size+1:=⟨_,rfl⟩;obtain⟨K0,hK0⟩:∃ K,K=w.heap.size:=⟨_,rfl⟩
 have HB:Hid (Below w.heap.size w W/\Bx W K0 #[.int .i64 c,.string (mk x),.int .i64 z] 52/\Bx W K1 #[.string (mk pa),.int .i64 pt] 62/\Bx W K2 zT 35/\Bx W K3 #[.int .i64 0,.int .i64 0] 32):=by
  rw[hK0,hK1,hK2,hK3];exact N4.out
 rw[<-hK3,<-hK2,<-hK1,<-hK0];have hK:w.heap.size<=K0/\K0<K1/\K1<K2/\K2<K3:=by omega
 have hwW:w.heap.size<=W.heap.size:=HB.out.1.size;clear N4 hK0 hK1 hK2 hK3;have HER:Hid (Calls Tryz.prog 40 #[.int .i64 ar,.agg #[.int .i64 c,.string (mk x),.int .i64 z,.string (mk pa),.int .i64 pt],.slice a len cap] W fun e w'=>e=.returned (.tuple #[.slice none 0 0,.slice none 0 0,.agg #[.int .i64 q.2.2.1,.int .i64 q.2.2.2]])/\Below W.heap.size W w'):=(HHD.out W HB.out.1).mono (fun e w' h=>⟨h.1 hq,h.2.2⟩);clear HHD HQ;obtain⟨q1,q2,qy,qz⟩:=q;replace hq:(qy != 0)=true:=by simpa using hq
 refine HER.out.mono ?_;rintro e w1 ⟨rfl,H1⟩
 have H2:Hid (∀ w2,w2=w1.alloc (.cells #[.int .i64 qy,.int .i64 qz] 32)->Below w.heap.size w w2/\Bx w2 K2 zT 35/\Bx w2 K3 #[.int .i64 0,.int .i64 0] 32/\Bx w2 w1.heap.size #[.int .i64 qy,.int .i64 qz] 32/\K3<w1.heap.size):=fun w2 e=>by
  subst e;have b:=H1.trans ((below_alloc w1 (.cells #[.int .i64 qy,.int .i64 qz] 32)).mono H1.size);exact⟨HB.out.1.trans (b.mono HB.out.1.size),HB.out.2.2.2.1.later b,HB.out.2.2.2.2.later b,Bx.new _ _ _,Nat.lt_of_lt_of_le HB.out.2.2.2.2.lt H1.size⟩
 clear H1 HB HER;go_upto_region 3 with fail
 have N2:=H2.out _ rfl;clear H2;generalize w1.alloc (.cells #[.int .i64 qy,.int .i64 qz] 32)=w2 at N2 |-;generalize w1.heap.size=KF at N2 |-;have HS:Hid (_/\_/\_/\_/\_):=N2;clear N2;obtain⟨i0,i1⟩:=HS.out.2.2.2.1.c2;obtain⟨d0,d1,d2,d3,d4,d5,z0,z1,z2,z3,z4,z5⟩:=c6_of HS.out.2.1 HS.out.2.2.1;have hn23:K2≠K3:=by omega
 have hn32:K3≠K2:=by omega
 have hn2:K2≠KF:=by have:=HS.out.2.2.2.2;omega
 have hn3:K3≠KF:=by have:=HS.out.2.2.2.2;omega
 have hn4:KF≠K2:=fun e=>hn2 e.symm
 have hn5:KF≠K3:=fun e=>hn3 e.symm
 have HF:Hid (_/\_/\_):=fill6_is HS.out.2.1 HS.out.2.2.1 hn23 HS.out.1 (by omega) (by omega) (.int .i64 0) (.string ⟨#[]⟩) (.string ⟨#[]⟩) (.slice none 0 0) (.int .i64 qy) (.int .i64 qz);clear HS;go_region
 all_goals
  go_wp2;change bodyPost _ _ _ _ _ (fill6 w2 K2 K3 (.int .i64 0) (.string ⟨#[]⟩) (.string ⟨#[]⟩) (.slice none 0 0) (.int .i64 qy) (.int .i64 qz)).drew;generalize fill6 w2 K2 K3 (.int .i64 0) (.string ⟨#[]⟩) (.string ⟨#[]⟩) (.slice none 0 0) (.int .i64 qy) (.int .i64 qz)=WF at HF |-;have j0:WF.drew.cell? ⟨K2,0,none⟩=_:=HF.out.2.1.cell 0;have j1:WF.drew.cell? ⟨K2,1,none⟩=_:=HF.out.2.1.cell 1;have j2:WF.drew.cell? ⟨K2,2,none⟩=_:=HF.out.2.1.cell 2;have j3:WF.drew.cell? ⟨K2,3,none⟩=_:=HF.out.2.1.cell 3;have j4:WF.drew.cell? ⟨K3,0,none⟩=_:=HF.out.2.2.cell 0;have j5:WF.drew.cell? ⟨K3,1,none⟩=_:=HF.out.2.2.cell 1;refine bodyPost_ret (v:=.tuple #[.agg #[.int .i64 0,.string ⟨#[]⟩,.string ⟨#[]⟩,.slice none 0 0],.agg #[.int .i64 qy,.int .i64 qz]]) (by simp[results,Tryz.results26,go_sem,j0,j1,j2,j3,j4,j5]) rfl ?_;exact⟨_,rfl,TrP.leaf 0 [] [] (by decide) (by decide) (by decide) d,HF.out.1.drew⟩
end Tre
end Go.Proofs.YtalijhclfppohaaGreatDoor
