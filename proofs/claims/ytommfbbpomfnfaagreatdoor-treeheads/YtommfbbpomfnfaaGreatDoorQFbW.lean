/- . -/
import Derived.Test.YtommfbbpomfnfaaGreatDoorQFbV
import Derived.Test.YtommfbbpomfnfaaGreatDoorQFbQ
import Derived.Test.YtommfbbpomfnfaaGreatDoorQFbP
import Derived.Test.YtommfbbpomfnfaaGreatDoorQFbC
import Derived.Test.YtommfbbpomfnfaaGreatDoorQFbM
import Derived.Test.YtommfbbpomfnfaaGreatDoorQFbL
import Derived.Test.YtommfbbpomfnfaaGreatDoorQFbI
set_option linter.unusedSimpArgs false
set_option linter.unusedVariables false
set_option maxRecDepth 100000
namespace Go.Proofs.YtommfbbpomfnfaaGreatDoor
namespace Flw
open Utf Rws Pln
open Go.RowKit
set_option maxHeartbeats 4000000
variable {b p dp d:Nat} {s:Ln} {w w1 w2:World}
theorem value_all:∀ (d dp:Nat),dp+d=64->∀ (b:Nat) (s:Ln) (f:Bool) (w:World) (p:Nat),Rd w b s p dp->p<=s.length->s.length<=65536->TbB b w ->
  Calls Tryz.prog 34 #[.pointer (some ⟨b,0,none⟩),.bool f] w fun e w'=>ValRes b s dp w (d+1) (lval d f (s.drop p)) e w'
 | 0,dp,hd,b,s,f,w,p,h,hp,hs,hT=>by
  have hdp:dp=64:=by omega
  subst hdp;exact value_any (inner:=none) f (fun w' p' h1 h2 h3 h4=>⟨bracket_deep _ _ h1 h2 hs,bracket_deep _ _ h1 h2 hs⟩) (fun v hv=>by cases hv) h hp hs hT
 | d+1,dp,hd,b,s,f,w,p,h,hp,hs,hT=>by
  have hV:ValOk b s (dp+1) (d+1) (fun m=>lval d true m):=fun w' p' h1 h2 h3=>value_all d (dp+1) (by omega) b s true w' p' h1 h2 hs h3
  have hbd:∀ l,Bad ((fun m=>lval d true m) l):=fun l=>lval_bad d true l
  have hb:BrkOk b s dp (d+1) (some fun m=>lval d true m):=fun w' p' h1 h2 h3 h4 =>
   ⟨bracket_any 101 (enters_of Tryz.func101 (by kernel_rfl) rfl) false 93 rfl (by decide) (vf:=fun m=>lval d true m) (fun w2 p2 g1 g2 g3=>item_any hV (fun l e he=>hbd l e he) g1 g2 hs g3) (fun l e he=>lpart_bad hbd false l e he) (fun l=>lval_adv d true l) h1 h2 hs h3 (by omega) h4,
    bracket_any 102 (enters_of Tryz.func102 (by kernel_rfl) rfl) true 125 rfl (by decide) (vf:=fun m=>lval d true m) (fun w2 p2 g1 g2 g3=>entry_any hV (fun l e he=>hbd l e he) g1 g2 hs g3 (by omega)) (fun l e he=>lpart_bad hbd true l e he) (fun l=>lval_adv d true l) h1 h2 hs h3 (by omega) h4⟩
  exact value_any (inner:=some fun m=>lval d true m) f hb (fun v hv=>by cases hv;exact hbd) h hp hs hT
structure SW (w0 w:World) (K0 K1:Nat):Prop where
 k0:Bx w K0 zT 26
 k1:Bx w K1 zF 34
 bl:Below w0.heap.size w0 w
 h0:w0.heap.size<=K0
 h1:K0<K1
variable {K0 K1:Nat} {w0:World}
theorem SW.later (h:SW w0 w K0 K1) (hb:Below w.heap.size w w1):SW w0 w1 K0 K1:=⟨h.k0.later hb,h.k1.later hb,h.bl.trans (hb.mono h.bl.size),h.h0,h.h1⟩
theorem SW.fr (h:SW w0 w K0 K1) (hf:Fr b w w1) (hb:K1<b):SW w0 w1 K0 K1:=by
 have:=h.h0;have:=h.h1;exact⟨(hf.1.block _ (by omega)).trans h.k0,(hf.1.block _ (by omega)).trans h.k1,h.bl.trans (hf.1.mono (by omega)),h.h0,h.h1⟩
theorem SW.c (h:SW w0 w K0 K1):S2C w K0 K1:=⟨h.k0.cell 0,h.k0.cell 1,h.k0.cell 2,h.k0.cell 3,h.k1.cell 0,h.k1.cell 1,h.k0.fz 0,h.k0.fz 1,h.k0.fz 2,h.k0.fz 3,h.k1.fz 0,h.k1.fz 1⟩
theorem SW.out (h:SW w0 w K0 K1) (x0 x1 x2 x3 y0 y1:Value):Below w0.heap.size w0 (fill6 w K0 K1 x0 x1 x2 x3 y0 y1)/\Bx (fill6 w K0 K1 x0 x1 x2 x3 y0 y1) K0 #[x0,x1,x2,x3] 26/\Bx (fill6 w K0 K1 x0 x1 x2 x3 y0 y1) K1 #[y0,y1] 34:=by
 have:=h.h0;have:=h.h1;exact⟨((below_fill4 h.bl h.h0 x0 x1 x2 x3).setCell (p:=⟨K1,0,none⟩) (by show w0.heap.size<=K1;omega) _).setCell (p:=⟨K1,1,none⟩) (by show w0.heap.size<=K1;omega) _,((h.k0.fill4 rfl x0 x1 x2 x3).other (by omega) _ _).other (by omega) _ _,((h.k1.fill4o (by omega) x0 x1 x2 x3).set 0 y0).set 1 y1⟩
end Flw
namespace Flw
open Utf Rws Pln
open Go.RowKit
theorem rdF_short (q:UInt8):∀ (f:Nat) (l:Ln) (at_:Nat) (out:Ln),out.length<=at_->(Quo.rdF q f l at_ out).2.2.1=0->(Quo.rdF q f l at_ out).1.length<=(Quo.rdF q f l at_ out).2.1
 | 0,l,at_,out,ho,h=>by simp[Quo.rdF]at h
 | f+1,l,at_,out,ho,h=>by
  rw[Quo.rdF]at h |-;by_cases h1:(Quo.stp q l).1=0
  ·rw[if_pos h1];show out.length<=at_+1;omega
  rw[if_neg h1]at h |-;by_cases h2:(Quo.stp q l).1=1
  ·rw[if_pos h2]at h |-;exact rdF_short q f _ _ _ (by have:=Quo.stp_le h2;rw[List.length_append];omega) h
  rw[if_neg h2]at h;by_cases h4:(Quo.stp q l).1=4
  ·rw[if_pos h4]at h;cases h
  ·rw[if_neg h4]at h;exact absurd h h1
theorem rd_short (l:Ln) (h:(Quo.rd l).2.2.1=0):(Quo.rd l).1.length<=l.length:=by
 have h2:=(Quo.rd_means l h).2.2;refine Nat.le_trans ?_ h2;unfold Quo.rd at h |-;by_cases c1:l=[]
 ·rw[if_pos c1]at h;cases h
 rw[if_neg c1]at h |-;by_cases c2:l.getD 0 0=39\/l.getD 0 0=34
 ·rw[if_pos c2]at h |-;exact rdF_short _ _ _ _ _ (by simp) h
 ·rw[if_neg c2]at h;cases h
theorem quoted_short {l:Ln} {x:Ln × Ln} (h:quoted l=.ok x):x.1.length<=l.length:=by
 unfold quoted at h;obtain⟨hn,e⟩:=ite_inv h;cases e;exact rd_short l (by omega)
theorem leaf_short (k:Int) (s a:Ln):(leaf k s a).text.length<=s.length/\(leaf k s a).anc=a/\(leaf k s a).kids=[]:=by
 unfold leaf;refine⟨?_,rfl,rfl⟩;show (if k=1 then []else s).length<=_;split
 ·exact Nat.zero_le _
 ·exact Nat.le_refl _
theorem fits_short {s:Ln} {q:Bool} {p:Pr} {t:Tr} (h:fits s q p=.ok t):t.text.length<=s.length/\t.anc=p.anc/\t.kids=[]:=by
 unfold fits at h;by_cases c4:p.tag=4
 ·rw[if_pos c4]at h;cases h;exact leaf_short _ _ _
 ·rw[if_neg c4]at h;by_cases c0:p.tag≠0
  ·rw[if_pos c0]at h;obtain⟨e,h⟩:=ite_inv h;cases h;exact leaf_short _ _ _
  ·rw[if_neg c0]at h;cases h;exact leaf_short _ _ _
theorem key_short {l:Ln} {x:Tr × Ln} (h:key l=.ok x):x.1.text.length<=l.length/\x.1.anc=[]/\x.1.kids=[]:=by
 unfold key at h;by_cases c:hd l=39\/hd l=34
 ·rw[if_pos c]at h;obtain⟨y,hy,h⟩:=bnd_inv h;cases h;exact⟨quoted_short hy,rfl,rfl⟩
 ·rw[if_neg c]at h;obtain⟨y,hy,h⟩:=bnd_inv h;obtain⟨hn,h⟩:=ite_inv h;cases h;have hq:=plain_inv hy;have:=leaf_short (knd y.1) y.1 [];exact⟨by have:=this.1;show (leaf (knd y.1) y.1 []).text.length<=_;omega,rfl,rfl⟩
theorem prp_short (f:Bool) (B:Nat):∀ (n:Nat) (p:Pr) (l:Ln) (x:Pr × Ln),p.anc.length<=B->l.length<=B->prp f n p l=.ok x->x.1.anc.length<=B
 | 0,p,l,x,hp,hl,h=>by cases h;exact hp
 | n+1,p,l,x,hp,hl,h=>by
  unfold prp at h;by_cases c1:hd l=38/\p.anc=[]
  ·rw[if_pos c1]at h;obtain⟨y,hy,h⟩:=bnd_inv h;obtain⟨r,hr,h⟩:=bnd_inv h;have h1:=nam_inv hy;have h2:=gap_inv hr;have h4:(l.drop 1).length<=l.length:=by rw[List.length_drop];omega
   exact prp_short f B n _ r x (show y.1.length<=B by omega) (by omega) h
  ·rw[if_neg c1]at h;by_cases c2:hd l=33/\hd (l.drop 1)=33/\p.tag=0
   ·rw[if_pos c2]at h;obtain⟨y,hy,h⟩:=bnd_inv h;obtain⟨r,hr,h⟩:=bnd_inv h;have h1:=tag_inv hy;have h2:=gap_inv hr;have h4:(l.drop 2).length<=l.length:=by rw[List.length_drop];omega
    exact prp_short f B n ⟨p.anc,y.1,l.length,true⟩ r x hp (by omega) h
   ·rw[if_neg c2]at h;cases h;exact hp
theorem brief_leaf2 (d:Nat) {t:Tr} (h1:t.text.length<=65536) (h2:t.anc.length<=65536) (h3:t.kids=[]):brief (d+1) t:=⟨h1,h2,fun i hi=>by rw[h3]at hi;exact absurd hi (Nat.not_lt_zero _)⟩
theorem part_short {v:Ln->Ot (Tr × Ln)} {d:Nat} (hv:∀ l x,l.length<=65536->v l=.ok x->brief (d+1) x.1) {map:Bool} {l:Ln} {x:List Tr × Ln} (hl:l.length<=65536) (h:part v map l=.ok x):∀ k∈x.1,brief (d+1) k:=by
 unfold part at h;cases map
 ·rw[if_neg (by decide)]at h;obtain⟨_,h⟩:=ite_inv h;obtain⟨y,hy,h⟩:=bnd_inv h;cases h;intro k hk;simp at hk;rw[hk];exact hv _ _ hl hy
 ·rw[if_pos rfl]at h;obtain⟨k,hk,h⟩:=bnd_inv h;obtain⟨hc,h⟩:=ite_inv h;obtain⟨y,hy,h⟩:=bnd_inv h;cases h;have h1:=key_short hk;have h2:=key_inv hk;have h3:=gaps_len k.2;have h4:((gaps k.2).drop 1).length<=(gaps k.2).length:=by rw[List.length_drop];omega
  intro z hz;simp at hz;rcases hz with rfl | rfl
  ·exact brief_leaf2 d (by omega) (by rw[h1.2.1];simp) h1.2.2
  ·exact hv _ _ (by omega) hy
theorem lst_short {v:Ln->Ot (Tr × Ln)} {d:Nat} (hi:∀ l x,v l=.ok x->rgt d x.1=true/\x.2.length+cntT d x.1<=l.length+1) (hv:∀ l x,l.length<=65536->v l=.ok x->brief (d+1) x.1) (map:Bool) :
  ∀ (n:Nat) (l:Ln) (x:List Tr × Ln),l.length<=65536->lst v map n l=.ok x->∀ k∈x.1,brief (d+1) k
 | 0,l,x,hl,h=>by cases h
 | n+1,l,x,hl,h=>by
  have hg:=gaps_len l;unfold lst at h;by_cases c:hd (gaps l)=endOf map
  ·rw[if_pos c]at h;cases h;intro k hk;cases hk
  ·rw[if_neg c]at h;obtain⟨y,hy,h⟩:=bnd_inv h;have hp:=part_short hv (by omega) hy;have hq:=part_inv hi hy;have hg2:=gaps_len y.2;by_cases c2:hd (gaps y.2)=44
   ·rw[if_pos c2]at h;obtain⟨z,hz,h⟩:=bnd_inv h;cases h;have h4:=hd_ne (l:=gaps y.2) (by rw[c2];decide);have ih:=lst_short hi hv map n _ _ (by have:=hq.2.1;omega) hz;intro k hk;simp at hk;rcases hk with hk | hk
    ·exact hp k hk
    ·exact ih k hk
   ·rw[if_neg c2]at h;by_cases c3:hd (gaps y.2)=endOf map
    ·rw[if_pos c3]at h;cases h;exact hp
    ·rw[if_neg c3]at h;cases h
theorem body_short {inner:Option (Ln->Ot (Tr × Ln))} {f:Bool} {p:Pr} {l:Ln} {x:Tr × Ln} (hl:l.length<=65536) (hp:p.anc.length<=65536) (h:body inner f p l=.ok x) :
  (x.1.text.length<=65536/\x.1.anc.length<=65536/\x.1.kids=[]) \/
  (∃ v map y,inner=some v/\lst v map l.length (l.drop 1)=.ok y/\x=(⟨kindOf map,[],p.anc,y.1⟩,y.2)):=by
 unfold body at h;by_cases c1:hd l=42
 ·rw[if_pos c1]at h;obtain⟨_,h⟩:=ite_inv h;obtain⟨y,hy,h⟩:=bnd_inv h;cases h;have hn:=nam_inv hy;have h4:=hd_ne (l:=l) (by rw[c1];decide);left;exact⟨by simp,by show y.1.length<=_;omega,rfl⟩
 ·rw[if_neg c1]at h;by_cases c2:hd l=91\/hd l=123
  ·rw[if_pos c2]at h
   cases inner with
   | none=>cases h
   | some v =>
    obtain⟨y,hy,h⟩:=bnd_inv h;obtain⟨_,h⟩:=ite_inv h;cases h;right;exact⟨v,_,y,rfl,hy,rfl⟩
  ·rw[if_neg c2]at h;left;by_cases c3:hd l=39\/hd l=34
   ·rw[if_pos c3]at h;obtain⟨y,hy,h⟩:=bnd_inv h;obtain⟨t,ht,h⟩:=bnd_inv h;cases h;have hq:=quoted_short hy;have hf:=fits_short ht;exact⟨by show t.text.length<=_;omega,by show t.anc.length<=_;rw[hf.2.1];exact hp,hf.2.2⟩
   ·rw[if_neg c3]at h;obtain⟨y,hy,h⟩:=bnd_inv h;obtain⟨t,ht,h⟩:=bnd_inv h;cases h;have hq:=plain_inv hy;have hf:=fits_short ht;exact⟨by show t.text.length<=_;omega,by show t.anc.length<=_;rw[hf.2.1];exact hp,hf.2.2⟩
theorem getD_mem {xs:List Tr} {i:Nat} (h:i<xs.length):xs.getD i tr0∈xs:=by
 rw[List.getD_eq_getElem?_getD,List.getElem?_eq_getElem h];exact List.getElem_mem h
theorem val_short:∀ (d:Nat) (f:Bool) (l:Ln) (x:Tr × Ln),l.length<=65536->val d f l=.ok x->brief (d+1) x.1
 | 0,f,l,x,hl,h=>by
  obtain⟨y,hy,h⟩:=bnd_inv (show bnd _ _=_ from h);have h1:=prp_inv f 3 p0 _ _ p0_ok hy;have h2:=gaps_len l;have h3:=prp_short f 65536 3 p0 _ _ (by decide) (by omega) hy;rcases body_short (by omega) h3 h with ⟨a,b,c⟩ | ⟨v,map,z,hv,_⟩
  ·exact brief_leaf2 0 a b c
  ·cases hv
 | d+1,f,l,x,hl,h=>by
  obtain⟨y,hy,h⟩:=bnd_inv (show bnd _ _=_ from h);have h1:=prp_inv f 3 p0 _ _ p0_ok hy;have h2:=gaps_len l;have h3:=prp_short f 65536 3 p0 _ _ (by decide) (by omega) hy;rcases body_short (by omega) h3 h with ⟨a,b,c⟩ | ⟨v,map,z,hv,hz,rfl⟩
  ·exact brief_leaf2 (d+1) a b c
  ·cases hv;have h4:(y.2.drop 1).length<=y.2.length:=by rw[List.length_drop];omega
   have:=lst_short (fun l x hx=>val_inv d true l x hx) (fun l x hl hx=>val_short d true l x hl hx) map _ _ _ (by omega) hz;exact⟨by show ([]:Ln).length<=_;simp,h3,fun i hi=>this _ (getD_mem hi)⟩
/-! ### how long a tree's text is -/
end Flw
namespace Flw
open Utf Rws Pln
open Go.RowKit
theorem embB:Quo.Emb 96 2:=⟨by decide,by kernel_rfl⟩
def Wb (B b:Nat) (out:Ln) (w:World):Prop:=Quo.Bld 96 B b [] (Lib.byteCells out) w
variable {B b KB:Nat} {out:Ln} {w w1 w2:World}
theorem Wb.lt (h:Wb B b out w):b<w.heap.size:=Quo.Bld.lt h
theorem Wb.later (h:Wb B b out w) (hb:Below w.heap.size w w1):Wb B b out w1:=Quo.Bld.later h hb
theorem Wb.base (h:Wb B b out w):B<=b:=by rcases h with ⟨h,_⟩ | ⟨h,_⟩<;>exact h
theorem wStr (s:Ln) (w:World) (h:Wb B b out w) (hlen:out.length+s.length<=140737488355328) (hBw:B<=w.heap.size) :
  Calls Tryz.prog 93 #[.pointer (some ⟨b,0,none⟩),.string (mk s)] w fun e w'=>e=.returned (.tuple #[.int .i64 (s.length:Int),.nilIface])/\Wb B b (out++s) w'/\Quo.Fr B b w w':=by
 refine(Quo.writeString_any embB (mk s) h (by rw[Quo.cells_len,mk_size];exact hlen) hBw).mono ?_;rintro e w' ⟨h1,h2,h3,h4⟩;rw[mk_size]at h1;refine⟨h1,?_,h3,h4⟩
 have e:Lib.byteCells out++Lib.strCells (mk s)=Lib.byteCells (out++s):=by
  simp[Lib.byteCells,Lib.strCells,mk_data]
 rw[e]at h2;exact h2
structure Wk (W w0 w:World) (B b KB:Nat) (out:Ln) (tc:Array Value):Prop where
 g:Wb B b out w
 t:Bx w KB tc 26
 bl:Below W.heap.size W w
 f:Quo.Fr B b w0 w
 hB:W.heap.size<=B
 hs:B<=w.heap.size
 hk:KB≠b
theorem Wk.later {W w0:World} {tc:Array Value} (h:Wk W w0 w B b KB out tc) (hb:Below w.heap.size w w1):Wk W w0 w1 B b KB out tc :=
 ⟨h.g.later hb,h.t.later hb,h.bl.trans (hb.mono h.bl.size),h.f.trans (Quo.Fr.of hb h.hs),h.hB,Nat.le_trans h.hs hb.size,h.hk⟩
theorem Wk.fr {W w0:World} {tc:Array Value} {out':Ln} (h:Wk W w0 w B b KB out tc) (hw:Wb B b out' w1) (hf:Quo.Fr B b w w1):Wk W w0 w1 B b KB out' tc :=
 ⟨hw,hf.keep h.t h.hk (fun c fz e=>by cases e),h.bl.trans (hf.1.mono h.hB),h.f.trans hf,h.hB,Nat.le_trans h.hs hf.1.size,h.hk⟩
theorem wk_str {W w0:World} {tc:Array Value} (s:Ln) (h:Wk W w0 w B b KB out tc) (hlen:out.length+s.length<=140737488355328) :
  Calls Tryz.prog 93 #[.pointer (some ⟨b,0,none⟩),.string (mk s)] w fun e w'=>e=.returned (.tuple #[.int .i64 (s.length:Int),.nilIface])/\Hid (Wk W w0 w' B b KB (out++s) tc) :=
 (wStr s w h.g hlen h.hs).mono (fun e w' g=>⟨g.1,h.fr g.2.1 g.2.2⟩)
theorem Wk.new {W:World} {tc:Array Value} (h:Wb B b out w) (hb:Below W.heap.size W w) (hB:W.heap.size<=B) (hs:B<=w.heap.size):Wk W w (w.alloc (.cells tc 26)) B b w.heap.size out tc :=
 ⟨h.later (below_alloc _ _),Bx.new _ _ _,hb.trans ((below_alloc _ _).mono hb.size),Quo.Fr.of (below_alloc _ _) hs,hB,by rw[World.size_alloc];omega,by have:=h.lt;omega⟩
end Flw
namespace Flw
open Utf Rws Pln
open Go.RowKit
set_option maxHeartbeats 4000000
structure Wq (W w0 w:World) (B b KB KK:Nat) (out:Ln) (tc kc:Array Value):Prop where
 g:Wk W w0 w B b KB out tc
 k:Bx w KK kc 26
 hk:KK≠b
theorem Wq.later {W w0 w w1:World} {B b KB KK:Nat} {out:Ln} {tc kc:Array Value} (h:Wq W w0 w B b KB KK out tc kc) (hb:Below w.heap.size w w1):Wq W w0 w1 B b KB KK out tc kc :=
 ⟨h.g.later hb,h.k.later hb,h.hk⟩
theorem Wq.new {W w0 w:World} {B b KB:Nat} {out:Ln} {tc kc:Array Value} (h:Wk W w0 w B b KB out tc):Wq W w0 (w.alloc (.cells kc 26)) B b KB w.heap.size out tc kc :=
 ⟨h.later (below_alloc _ _),Bx.new _ _ _,by have:=h.g.lt;omega⟩
theorem wq_str {W w0 w:World} {B b KB KK:Nat} {out:Ln} {tc kc:Array Value} (s:Ln) (h:Wq W w0 w B b KB KK out tc kc) (hlen:out.length+s.length<=140737488355328) :
  Calls Tryz.prog 93 #[.pointer (some ⟨b,0,none⟩),.string (mk s)] w fun e w'=>e=.returned (.tuple #[.int .i64 (s.length:Int),.nilIface])/\Hid (Wq W w0 w' B b KB KK (out++s) tc kc) :=
 (wStr s w h.g.g hlen h.g.hs).mono (fun e w' g=>⟨g.1,h.g.fr g.2.1 g.2.2,g.2.2.keep h.k h.hk (fun c fz e=>by cases e),h.hk⟩)
theorem sep_no {mp:Bool} {p:Nat} (h:(mp && decide (p % 2=0))=false):sep mp (p+1)=[44,32]:=by
 unfold sep;rw[if_neg (by omega),if_neg];rintro⟨h1,h2⟩;rw[h1,decide_eq_true (by omega)]at h;cases h
theorem sep_yes {mp:Bool} {p:Nat} (h:(mp && decide (p % 2=0))=true):sep mp (p+1)=[58,32]:=by
 unfold sep;simp only[Bool.and_eq_true,decide_eq_true_eq]at h;rw[if_neg (by omega),if_pos ⟨h.1,by omega⟩]
def WrOk (W:World) (B b d:Nat) (f:Tr->Ln) (P:Tr->Prop):Prop:=∀ (v:Value) (t:Tr) (w:World) (out:Ln),P t->TrV W d v t->Below W.heap.size W w->W.heap.size<=B->B<=w.heap.size->Wb B b out w->out.length+(f t).length<=140737488355328 ->
 Calls Tryz.prog 56 #[.pointer (some ⟨b,0,none⟩),v] w fun e w'=>e=.returned (.tuple #[])/\Wb B b (out++f t) w'/\Quo.Fr B b w w'
theorem jn_at (f:Tr->Ln) (mp:Bool) (j:Nat) (ks:List Tr) (h:j<ks.length):jn mp j ((ks.drop j).map f)=sep mp j++(f (ks.getD j tr0)++jn mp (j+1) ((ks.drop (j+1)).map f)):=by
 rw[List.drop_eq_getElem_cons h,List.getD_eq_getElem?_getD,List.getElem?_eq_getElem h,<-List.append_assoc];rfl
theorem writeKids_core (k:Int) (x a:Ln) (ad:Option Addr) (len cap:Nat) (W w:World) (B b d:Nat) (ks:List Tr) (hl:len<=9223372036854775807)
  (HK:Hid (KAt W d ad len ks)) (HBW:Hid (Below W.heap.size W w)) (hB:W.heap.size<=B) (hs:B<=w.heap.size) (out:Ln) (HW:Hid (Wb B b out w))
  (f:Tr->Ln) (P:Tr->Prop) (hP:∀ i,i<ks.length->P (ks.getD i tr0)) (HI:Hid (WrOk W B b d f P)) (mp:Bool) (HM:Hid (mp=decide (k=6))) (J:Ln) (HJ:Hid (J=jn mp 0 (ks.map f))) (hlen:out.length+J.length<=140737488355328) :
  Calls Tryz.prog 94 #[.pointer (some ⟨b,0,none⟩),tv k x a ad len cap] w fun e w'=>e=.returned (.tuple #[])/\Hid (Wb B b (out++J) w'/\Quo.Fr B b w w'):=by
 have H1:Hid (Wk W w (w.alloc (.cells #[.int .i64 k,.string (mk x),.string (mk a),.slice ad len cap] 26)) B b w.heap.size out #[.int .i64 k,.string (mk x),.string (mk a),.slice ad len cap]):=Wk.new HW.out HBW.out hB hs;obtain⟨w1,hw1⟩:∃ w1,w.alloc (.cells #[.int .i64 k,.string (mk x),.string (mk a),.slice ad len cap] 26)=w1:=⟨_,rfl⟩;rw[hw1]at H1;obtain⟨KB,hKB⟩:∃ KB,w.heap.size=KB:=⟨_,rfl⟩;rw[hKB]at H1;have e3:w1.cell? ⟨KB,3,none⟩=some (.slice ad len cap):=H1.out.t.cell 3;have HLN:Hid (out.length+J.length<=140737488355328):=hlen;clear hlen HW HBW;go_enter Tryz.func94,Tryz.ntmps94;go_wp2_with fail;clear e3
 go_loopw [9] (fun i wr=>∃ (j:Nat) (acc:Ln),j<=len/\i=.int .i64 j/\Hid (Wk W w wr B b KB acc #[.int .i64 k,.string (mk x),.string (mk a),.slice ad len cap])/\Hid (out++J=acc++jn mp j ((ks.drop j).map f))) (fun i _=>len-(intOf i).toNat)
 case atStart=>exact⟨0,out,Nat.zero_le _,rfl,H1,by show _=_;rw[HJ.out];rfl⟩
 case round =>
  obtain⟨j,acc,hj,rfl,HWk,HA⟩:=hrel;clear H1;by_cases hlt:j<len
  ·have hlk:j<ks.length:=by have:=HK.out.1;omega
   obtain⟨b',off,rfl,hb,hcell⟩:=HK.out.2 (by omega);obtain⟨c0,c1,c2,c3,x0,x1,x2,x3,hx'⟩:=hcell j hlt;replace x0:=(HWk.out.bl.cell (p:=⟨b',off+j*4,none⟩) hb).trans x0;replace x1:=(HWk.out.bl.cell (p:=⟨b',off+j*4+1,none⟩) hb).trans x1;replace x2:=(HWk.out.bl.cell (p:=⟨b',off+j*4+2,none⟩) hb).trans x2;replace x3:=(HWk.out.bl.cell (p:=⟨b',off+j*4+3,none⟩) hb).trans x3;have HV:Hid (TrV W d (.agg #[c0,c1,c2,c3]) (ks.getD j tr0)):=hx';obtain⟨ad',len',cap',rfl,rfl,rfl,rfl⟩:=hx'.four;clear hcell hx';have HPk:Hid (P (ks.getD j tr0)):=hP j hlk;have HAT:Hid (out++J=acc++(sep mp j++(f (ks.getD j tr0)++jn mp (j+1) ((ks.drop (j+1)).map f)))):=HA.out.trans (by rw[jn_at f mp j ks hlk]);clear HA;generalize ks.getD j tr0=t' at x0 x1 x2 x3 HV HPk HAT;obtain⟨k',y',a',ks'⟩:=t';simp only at x0 x1 x2 x3 HV HAT;obtain⟨F,HF⟩:∃ F,Hid (F=f ⟨k',y',a',ks'⟩):=⟨_,rfl⟩;obtain⟨S,HS⟩:∃ S,Hid (S=sep mp j):=⟨_,rfl⟩;rw[<-HF.out,<-HS.out]at HAT
   have HL2:Hid (acc.length+(S.length+F.length)<=140737488355328):=by
    have h1:=congrArg List.length HAT.out;simp only[List.length_append]at h1;have h2:=HLN.out;show _<=_;omega
   have H4:Hid (Wq W w (wr.alloc (.cells #[.int .i64 k',.string (mk y'),.string (mk a'),.slice ad' len' cap'] 26)) B b KB wr.heap.size acc #[.int .i64 k,.string (mk x),.string (mk a),.slice (some ⟨b',off,none⟩) len cap] #[.int .i64 k',.string (mk y'),.string (mk a'),.slice ad' len' cap']):=Wq.new HWk.out;go_upto_region 5 with fail
   generalize wr.alloc (.cells #[.int .i64 k',.string (mk y'),.string (mk a'),.slice ad' len' cap'] 26)=w4 at H4 |-;generalize wr.heap.size=KK at H4 |-;have HKP:Hid (∀ (p:Nat) (w':World),j=p+1->Hid (Wq W w w' B b KB KK (acc) #[.int .i64 k,.string (mk x),.string (mk a),.slice (some ⟨b',off,none⟩) len cap] #[.int .i64 k',.string (mk y'),.string (mk a'),.slice ad' len' cap'])->Calls Tryz.prog 66 #[.agg #[.int .i64 k,.string (mk x),.string (mk a),.slice (some ⟨b',off,none⟩) len cap],.int .i64 (p:Int)] w' fun e w''=>e=.returned (.bool (mp && decide (p % 2=0)))/\Hid (Wq W w w'' B b KB KK (acc) #[.int .i64 k,.string (mk x),.string (mk a),.slice (some ⟨b',off,none⟩) len cap] #[.int .i64 k',.string (mk y'),.string (mk a'),.slice ad' len' cap'])):=fun p w' hp h=>(isKeyPlace_any p (by omega)).mono (fun e w'' g=>⟨by rw[g.1,HM.out],h.out.later g.2⟩)
   have HST:Hid (∀ w' s,S=s->Hid (Wq W w w' B b KB KK (acc) #[.int .i64 k,.string (mk x),.string (mk a),.slice (some ⟨b',off,none⟩) len cap] #[.int .i64 k',.string (mk y'),.string (mk a'),.slice ad' len' cap'])->Calls Tryz.prog 93 #[.pointer (some ⟨b,0,none⟩),.string (mk s)] w' fun e w''=>e=.returned (.tuple #[.int .i64 (s.length:Int),.nilIface])/\Hid (Wq W w w'' B b KB KK (acc++S) #[.int .i64 k,.string (mk x),.string (mk a),.slice (some ⟨b',off,none⟩) len cap] #[.int .i64 k',.string (mk y'),.string (mk a'),.slice ad' len' cap'])):=fun w' s hs h=>by
    subst hs;exact wq_str S h.out (by have:=HL2.out;omega)
   have HWR:Hid (∀ w',Hid (Wq W w w' B b KB KK (acc++S) #[.int .i64 k,.string (mk x),.string (mk a),.slice (some ⟨b',off,none⟩) len cap] #[.int .i64 k',.string (mk y'),.string (mk a'),.slice ad' len' cap'])->Calls Tryz.prog 56 #[.pointer (some ⟨b,0,none⟩),.agg #[.int .i64 k',.string (mk y'),.string (mk a'),.slice ad' len' cap']] w' fun e w''=>e=.returned (.tuple #[])/\Hid (Hid (Wk W w w'' B b KB (acc++S++F) #[.int .i64 k,.string (mk x),.string (mk a),.slice (some ⟨b',off,none⟩) len cap])/\Hid (out++J=acc++S++F++jn mp (j+1) ((ks.drop (j+1)).map f)))):=fun w' h =>
    (HI.out _ _ w' (acc++S) HPk.out HV.out h.out.g.bl h.out.g.hB h.out.g.hs h.out.g.g (by rw[<-HF.out,List.length_append];have:=HL2.out;omega)).mono (fun e w'' g=>⟨g.1,h.out.g.fr (by have:=g.2.1;rw[<-HF.out]at this;exact this) g.2.2,by show _=_;rw[HAT.out];simp only[List.append_assoc]⟩)
   obtain⟨u0,u1,u2,u3⟩:=H4.out.g.t.c4;obtain⟨v0,v1,v2,v3⟩:=H4.out.k.c4;clear HV HPk HWk x0 x1 x2 x3 HI HF HAT HL2 HLN HJ;by_cases hj0:j=0
   ·subst hj0;have HS0:S=[]:=HS.out;subst HS0;have H4':Hid (Wq W w w4 B b KB KK (acc++[]) #[.int .i64 k,.string (mk x),.string (mk a),.slice (some ⟨b',off,none⟩) len cap] #[.int .i64 k',.string (mk y'),.string (mk a'),.slice ad' len' cap']):=by rw[List.append_nil];exact H4
    go_wp2_with (first | (go_at_call 56;refine(HWR.out _ H4').mono ?_;rintro e w9 ⟨rfl,H9⟩));go_roundw
    case rel=>exact⟨0+1,_,by omega,by go_num,H9.out.1,H9.out.2⟩
    case measure=>simp[intOf];omega
   obtain⟨p,rfl⟩:∃ p,j=p+1:=⟨j-1,by omega⟩;clear hj0;obtain⟨q1,HQ1⟩:∃ q1,Hid (q1=(mp && decide (p % 2=0))):=⟨_,rfl⟩;have HKP2:=HKP.out p w4 rfl H4;rw[<-HQ1.out]at HKP2;cases q1
   ·replace HS:Hid (S=[44,32]):=HS.out.trans (sep_no HQ1.out.symm);go_wp2_with (first | (go_at_call 66;refine HKP2.mono ?_;rintro e w5 ⟨rfl,H5⟩) | (go_at_call 93;refine(HST.out _ [44,32] HS.out H5).mono ?_;rintro e w6 ⟨rfl,H6⟩;have z0:w6.cell? ⟨KK,0,none⟩=some (.int .i64 k'):=H6.out.k.cell 0;have z1:w6.cell? ⟨KK,1,none⟩=some (.string (mk y')):=H6.out.k.cell 1;have z2:w6.cell? ⟨KK,2,none⟩=some (.string (mk a')):=H6.out.k.cell 2;have z3:w6.cell? ⟨KK,3,none⟩=some (.slice ad' len' cap'):=H6.out.k.cell 3) | (go_at_call 56;refine(HWR.out _ H6).mono ?_;rintro e w9 ⟨rfl,H9⟩));go_roundw
    case rel=>exact⟨(p+1)+1,_,by omega,by go_num,H9.out.1,H9.out.2⟩
    case measure=>simp[intOf];omega
   ·replace HS:Hid (S=[58,32]):=HS.out.trans (sep_yes HQ1.out.symm);go_wp2_with (first | (go_at_call 66;refine HKP2.mono ?_;rintro e w5 ⟨rfl,H5⟩) | (go_at_call 93;refine(HST.out _ [58,32] HS.out H5).mono ?_;rintro e w6 ⟨rfl,H6⟩;have z0:w6.cell? ⟨KK,0,none⟩=some (.int .i64 k'):=H6.out.k.cell 0;have z1:w6.cell? ⟨KK,1,none⟩=some (.string (mk y')):=H6.out.k.cell 1;have z2:w6.cell? ⟨KK,2,none⟩=some (.string (mk a')):=H6.out.k.cell 2;have z3:w6.cell? ⟨KK,3,none⟩=some (.slice ad' len' cap'):=H6.out.k.cell 3) | (go_at_call 56;refine(HWR.out _ H6).mono ?_;rintro e w9 ⟨rfl,H9⟩));go_roundw
    case rel=>exact⟨(p+1)+1,_,by omega,by go_num,H9.out.1,H9.out.2⟩
    case measure=>simp[intOf];omega
  ·have HLE:Hid (len=ks.length):=HK.out.1;have e:j=len:=by omega
   subst e;have HE:Hid (out++J=acc):=by show _=_;rw[HA.out,HLE.out,List.drop_length];exact List.append_nil _
   go_wp2;go_end0;exact⟨rfl,by rw[HE.out];exact HWk.out.g,HWk.out.f⟩
end Flw
namespace Flw
open Utf Rws Pln
open Go.RowKit
set_option maxHeartbeats 4000000
def plS (k:Int) (x:Ln):Prop:=k=3\/k=4/\isP x true=true/\knd x=4
theorem scalarS {w:World} {k:Int} {x a:Ln} {ad:Option Addr} {len cap:Nat} (hx:x.length<=65536) (hT:Tb w) (hk:plS k x):Calls Tryz.prog 95 #[tv k x a ad len cap,.bool true] w fun e w'=>e=.returned (.string (mk x))/\Below w.heap.size w w':=by
 have b1:=below_alloc w (.cells #[.int .i64 k,.string (mk x),.string (mk a),.slice ad len cap] 26);rcases hk with rfl | ⟨rfl,hi,hk⟩
 ·clear hT b1;go_enter Tryz.func95,Tryz.ntmps95;go_wp2;go_ret;exact⟨rfl,below_alloc _ _⟩
 ·have hx0:=Bx.new w #[.int .i64 4,.string (mk x),.string (mk a),.slice ad len cap] 26;obtain⟨W,hW⟩:∃ W,w.alloc (.cells #[.int .i64 4,.string (mk x),.string (mk a),.slice ad len cap] 26)=W:=⟨_,rfl⟩;rw[hW]at hx0 b1;obtain⟨K,hK⟩:∃ K,w.heap.size=K:=⟨_,rfl⟩;rw[hK]at hx0;have HI:Hid (Calls Tryz.prog 46 #[.string (mk x),.bool true] W fun e w''=>e=.returned (.bool true)/\Hid (Bx w'' K #[.int .i64 4,.string (mk x),.string (mk a),.slice ad len cap] 26/\Below w.heap.size w w''/\Tb w'')):=(is_any x true _ (by omega)).mono (fun e w'' g=>⟨by rw[g.1,hi],⟨hx0.later g.2,b1.trans (g.2.mono b1.size),(hT.later b1).later g.2⟩⟩);have HR:Hid (∀ w',Hid (Bx w' K #[.int .i64 4,.string (mk x),.string (mk a),.slice ad len cap] 26/\Below w.heap.size w w'/\Tb w')->Calls Tryz.prog 83 #[.string (mk x)] w' fun e w''=>e=.returned (.int .i64 4)/\Hid (Bx w'' K #[.int .i64 4,.string (mk x),.string (mk a),.slice ad len cap] 26/\Below w.heap.size w w'')):=fun w' h=>(resolve_any x _ (by omega) h.out.2.2.1).mono (fun e w'' g=>⟨g.1.trans (congrArg (fun k=>Ending.returned (.int .i64 k)) hk),⟨h.out.1.later g.2,h.out.2.1.trans (g.2.mono h.out.2.1.size)⟩⟩)
  have u0:W.cell? ⟨K,0,none⟩=some (.int .i64 4):=hx0.cell 0;have u1:W.cell? ⟨K,1,none⟩=some (.string (mk x)):=hx0.cell 1;clear hT b1 hx0 hi hk;go_enter Tryz.func95,Tryz.ntmps95;go_upto_region 1 with fail
  go_wp2_with (first | (go_at_call 46;refine HI.out.mono ?_;rintro e w5 ⟨rfl,H5⟩;have v1:w5.cell? ⟨K,1,none⟩=some (.string (mk x)):=H5.out.1.cell 1) | (go_at_call 83;refine(HR.out _ H5).mono ?_;rintro e w6 ⟨rfl,H6⟩;have z1:w6.cell? ⟨K,1,none⟩=some (.string (mk x)):=H6.out.1.cell 1));go_ret;exact⟨rfl,hK▸H6.out.2⟩
def sim:Nat->Tr->Prop
 | 0,t=>t.anc=[]/\t.text.length<=65536/\plS t.kind t.text
 | m+1,t=>t.anc=[]/\t.text.length<=65536/\(plS t.kind t.text\/(t.kind=5\/t.kind=6)/\∀ i,i<t.kids.length->sim m (t.kids.getD i tr0))
variable {x:Ln} {ad:Option Addr} {len cap:Nat} {W w:World} {B b d:Nat} {ks:List Tr} {out:Ln}
theorem wrS_leaf {k:Int} (hk:plS k x) (hx:x.length<=65536) (HBW:Below W.heap.size W w) (HTW:Tb W) (hB:W.heap.size<=B) (hs:B<=w.heap.size) (HW:Wb B b out w) (hlen:out.length+x.length<=140737488355328) :
  Calls Tryz.prog 56 #[.pointer (some ⟨b,0,none⟩),tv k x [] ad len cap] w fun e w'=>e=.returned (.tuple #[])/\Wb B b (out++x) w'/\Quo.Fr B b w w':=by
 have H1:Hid (Wk W w (w.alloc (.cells #[.int .i64 k,.string (mk x),.string (mk []),.slice ad len cap] 26)) B b w.heap.size out #[.int .i64 k,.string (mk x),.string (mk []),.slice ad len cap]):=Wk.new HW HBW hB hs;obtain⟨w1,hw1⟩:∃ w1,w.alloc (.cells #[.int .i64 k,.string (mk x),.string (mk []),.slice ad len cap] 26)=w1:=⟨_,rfl⟩;rw[hw1]at H1;obtain⟨KB,hKB⟩:∃ KB,w.heap.size=KB:=⟨_,rfl⟩;rw[hKB]at H1;obtain⟨e0,e1,e2,e3⟩:=H1.out.t.c4;have HST:Hid (∀ w',Hid (Wk W w w' B b KB out #[.int .i64 k,.string (mk x),.string (mk []),.slice ad len cap])->Calls Tryz.prog 93 #[.pointer (some ⟨b,0,none⟩),.string (mk x)] w' fun e w''=>e=.returned (.tuple #[.int .i64 (x.length:Int),.nilIface])/\Hid (Wk W w w'' B b KB (out++x) #[.int .i64 k,.string (mk x),.string (mk []),.slice ad len cap])):=fun w' h=>wk_str x h.out hlen
 have HSC:Hid (Calls Tryz.prog 95 #[.agg #[.int .i64 k,.string (mk x),.string (mk []),.slice ad len cap],.bool true] w1 fun e w''=>e=.returned (.string (mk x))/\Hid (Wk W w w'' B b KB out #[.int .i64 k,.string (mk x),.string (mk []),.slice ad len cap])) :=
  (scalarS hx (HTW.later H1.out.bl) hk).mono (fun e w'' g=>⟨g.1,H1.out.later g.2⟩)
 have he:((mk []).toList==[])=true:=by rw[ByteArray.toList_eq,mk_data];rfl
 have k7:(k==7)=false:=by rcases hk with rfl | ⟨rfl,_⟩<;>rfl
 have k5:(k==5)=false:=by rcases hk with rfl | ⟨rfl,_⟩<;>rfl
 have k6:(k==6)=false:=by rcases hk with rfl | ⟨rfl,_⟩<;>rfl
 clear HW HBW HTW hk hlen;go_enter Tryz.func56,Tryz.ntmps56;go_wp2_with fail;refine HSC.out.mono ?_;rintro e w2 ⟨rfl,G1⟩;go_wp2_with fail;refine(HST.out _ G1).mono ?_;rintro e w4 ⟨rfl,G3⟩;go_wp2;go_end0;exact⟨rfl,G3.out.g,G3.out.f⟩
theorem wrS_list {k:Int} (hk:k=5\/k=6) (hl:len<=9223372036854775807) (HK:Hid (KAt W d ad len ks)) (HBW:Hid (Below W.heap.size W w)) (hB:W.heap.size<=B) (hs:B<=w.heap.size) (HW:Hid (Wb B b out w))
  (f:Tr->Ln) (P:Tr->Prop) (hP:∀ i,i<ks.length->P (ks.getD i tr0)) (HI:Hid (WrOk W B b d f P)) (hlen:out.length+(wstep f ⟨k,x,[],ks⟩).length<=140737488355328) :
  Calls Tryz.prog 56 #[.pointer (some ⟨b,0,none⟩),tv k x [] ad len cap] w fun e w'=>e=.returned (.tuple #[])/\Wb B b (out++wstep f ⟨k,x,[],ks⟩) w'/\Quo.Fr B b w w':=by
 have H1:Hid (Wk W w (w.alloc (.cells #[.int .i64 k,.string (mk x),.string (mk []),.slice ad len cap] 26)) B b w.heap.size out #[.int .i64 k,.string (mk x),.string (mk []),.slice ad len cap]):=Wk.new HW.out HBW.out hB hs;obtain⟨w1,hw1⟩:∃ w1,w.alloc (.cells #[.int .i64 k,.string (mk x),.string (mk []),.slice ad len cap] 26)=w1:=⟨_,rfl⟩;rw[hw1]at H1;obtain⟨KB,hKB⟩:∃ KB,w.heap.size=KB:=⟨_,rfl⟩;rw[hKB]at H1
 obtain⟨p,q,J,he⟩:∃ p q J,Hid (wstep f ⟨k,x,[],ks⟩=p::(J++[q])/\J=jn (decide (k=6)) 0 (ks.map f)/\(k=5->p=91/\q=93)/\(k=6->p=123/\q=125)):=by
  rcases hk with rfl | rfl
  ·exact⟨91,93,_,⟨rfl,rfl,fun _=>⟨rfl,rfl⟩,fun h=>absurd h (by decide)⟩⟩
  ·exact⟨123,125,_,⟨rfl,rfl,fun h=>absurd h (by decide),fun _=>⟨rfl,rfl⟩⟩⟩
 rw[he.out.1]at hlen |-;simp only[List.length_append,List.length_cons,List.length_nil]at hlen;have HST:Hid (∀ w' s o,o.length+s.length<=140737488355328->Hid (Wk W w w' B b KB o #[.int .i64 k,.string (mk x),.string (mk []),.slice ad len cap])->Calls Tryz.prog 93 #[.pointer (some ⟨b,0,none⟩),.string (mk s)] w' fun e w''=>e=.returned (.tuple #[.int .i64 (s.length:Int),.nilIface])/\Hid (Wk W w w'' B b KB (o++s) #[.int .i64 k,.string (mk x),.string (mk []),.slice ad len cap])):=fun w' s o hl h=>wk_str s h.out hl
 have HKD:Hid (∀ w' o,o.length+J.length<=140737488355328->Hid (Wk W w w' B b KB o #[.int .i64 k,.string (mk x),.string (mk []),.slice ad len cap])->Calls Tryz.prog 94 #[.pointer (some ⟨b,0,none⟩),.agg #[.int .i64 k,.string (mk x),.string (mk []),.slice ad len cap]] w' fun e w''=>e=.returned (.tuple #[])/\Hid (Wk W w w'' B b KB (o++J) #[.int .i64 k,.string (mk x),.string (mk []),.slice ad len cap])):=fun w' o hl' h =>
  (writeKids_core k x [] ad len cap W w' B b d ks hl HK.out h.out.bl hB h.out.hs o h.out.g f P hP HI _ rfl J he.out.2.1 hl').mono (fun e w'' g=>⟨g.1,h.out.fr g.2.out.1 g.2.out.2⟩)
 obtain⟨e0,e1,e2,e3⟩:=H1.out.t.c4;have hm:((mk []).toList==[])=true:=by rw[ByteArray.toList_eq,mk_data];rfl
 obtain⟨_,_,h5,h6⟩:=he.out;clear HW HBW HI hP HK he;rcases hk with rfl | rfl
 all_goals
  first | obtain⟨rfl,rfl⟩:=h5 rfl | obtain⟨rfl,rfl⟩:=h6 rfl
  clear h5 h6;go_enter Tryz.func56,Tryz.ntmps56;go_wp2_with fail;refine(HST.out _ [_] out (by simp;omega) H1).mono ?_;rintro e w2 ⟨rfl,G1⟩;have g0:w2.cell? ⟨KB,0,none⟩=_:=G1.out.t.cell 0;have g1:w2.cell? ⟨KB,1,none⟩=_:=G1.out.t.cell 1;have g2:w2.cell? ⟨KB,2,none⟩=_:=G1.out.t.cell 2;have g3:w2.cell? ⟨KB,3,none⟩=_:=G1.out.t.cell 3;go_wp2_with fail;refine(HKD.out _ _ (by simp;omega) G1).mono ?_;rintro e w3 ⟨rfl,G2⟩;go_wp2_with fail;refine(HST.out _ [_] _ (by simp;omega) G2).mono ?_;rintro e w4 ⟨rfl,G3⟩;go_wp2;go_end0;exact⟨rfl,by have:=G3.out.g;simpa using this,G3.out.f⟩
theorem write_sim (hT:Tb W):∀ (m d:Nat),WrOk W B b d (fun t=>wrt m t) (sim m):=by
 have lf:∀ (f:Tr->Ln) (d:Nat) (v:Value) (t:Tr) (w:World) (out:Ln),t.anc=[]->t.text.length<=65536->plS t.kind t.text->TrV W d v t->Below W.heap.size W w->W.heap.size<=B->B<=w.heap.size->Wb B b out w->out.length+(wstep f t).length<=140737488355328 ->
   Calls Tryz.prog 56 #[.pointer (some ⟨b,0,none⟩),v] w fun e w'=>e=.returned (.tuple #[])/\Wb B b (out++wstep f t) w'/\Quo.Fr B b w w':=by
  intro f d v t w out ha hx hp h hb hB hs hw hlen;obtain⟨k,x,a,ks⟩:=t;obtain⟨ad,len,cap,rfl⟩:=h.open4;simp only at ha hx hp |-;subst ha
  have e:wstep f ⟨k,x,[],ks⟩=x:=by
   rcases hp with rfl | ⟨rfl,h1,h2⟩
   ·rfl
   ·show []++scl true 4 x=x;unfold scl;rw[if_neg (by decide),if_neg (by decide),if_pos rfl,if_pos ⟨h1,h2⟩];rfl
  rw[e]at hlen |-;exact wrS_leaf hp hx hb hT hB hs hw hlen
 intro m
 induction m with
 | zero=>exact fun d v t w out hp h hb hB hs hw hlen=>lf _ d v t w out hp.1 hp.2.1 hp.2.2 h hb hB hs hw hlen
 | succ m ih =>
  intro d v t w out hp h hb hB hs hw hlen;obtain⟨ha,hx,hp | ⟨hk,hp⟩⟩:=hp
  ·exact lf _ d v t w out ha hx hp h hb hB hs hw hlen
  cases d with
  | zero=>exact h.elim
  | succ d =>
   obtain⟨ad,len,cap,rfl,hl,hcp,hm,hz,hkd⟩:=h;obtain⟨k,x,a,ks⟩:=t;have m1:maxLen=9223372036854775807:=rfl;simp only at ha hx hp hk hkd hl |-;subst ha;exact wrS_list hk (by omega) ⟨hl,hkd⟩ hb hB hs hw (fun k=>wrt m k) (sim m) hp (ih d) hlen
theorem writeS {v:Value} {t:Tr} (hb:brief d t) (h:TrV w d v t) (hT:Tb w) (hp:sim 64 t) (hr:rgh d t=true) (hlen:(wrt 64 t).length<=140737488355328):Calls Tryz.prog 33 #[v] w fun e w'=>e=.returned (.tuple #[.string (mk (wrt 64 t)),.int .i64 0])/\Below w.heap.size w w':=by
 obtain⟨ad,len,cap,hv⟩:=h.open4
 have HR:Hid (Calls Tryz.prog 16 #[v] (w.alloc (.cells #[.int .i64 t.kind,.string (mk t.text),.string (mk t.anc),.slice ad len cap] 26)) fun e w'=>e=.returned (.bool true)/\Hid (Below w.heap.size w w'/\Bx w' w.heap.size #[.int .i64 t.kind,.string (mk t.text),.string (mk t.anc),.slice ad len cap] 26)):=by
  have b1:=below_alloc w (.cells #[.int .i64 t.kind,.string (mk t.text),.string (mk t.anc),.slice ad len cap] 26);have n1:=Bx.new w #[.int .i64 t.kind,.string (mk t.text),.string (mk t.anc),.slice ad len cap] 26;exact(right_any hb (h.later b1 (Nat.le_refl _)) (hT.later b1)).mono (fun e w' g=>⟨by rw[g.1,hr],b1.trans (g.2.mono b1.size),n1.later g.2⟩)
 have HWR:Hid (∀ w1,Below w.heap.size w w1->Calls Tryz.prog 56 #[.pointer (some ⟨w1.heap.size,0,none⟩),v] (w1.alloc (.cells #[.pointer none,.slice none 0 0] 96)) fun e w'=>e=.returned (.tuple #[])/\Hid (Wb w1.heap.size w1.heap.size (wrt 64 t) w'/\Below w.heap.size w w'/\w1.heap.size<=w'.heap.size)):=fun w1 b1=>by
  have b2:=below_alloc w1 (.cells #[.pointer none,.slice none 0 0] 96);have s2:(w1.alloc (.cells #[.pointer none,.slice none 0 0] 96)).heap.size=w1.heap.size+1:=World.size_alloc _ _;exact(write_sim hT 64 d v t _ [] hp h (b1.trans (b2.mono b1.size)) b1.size (by omega) (.inl ⟨Nat.le_refl _,.slice none 0 0,heap_alloc_new w1 _,by simp[World.ownsRowF,World.ownsRow,Lib.byteCells],by simp[Value.ownBlock],fun _=>rfl⟩) (by simpa using hlen)).mono (fun e w' g=>⟨g.1,g.2.1,(b1.trans (b2.mono b1.size)).trans (g.2.2.1.mono b1.size),by have:=g.2.2.1.size;omega⟩)
 have HSG:Hid (∀ B w3,Wb B B (wrt 64 t) w3->Below w.heap.size w w3->w.heap.size<=B->B<=w3.heap.size->Calls Tryz.prog 57 #[.pointer (some ⟨B,0,none⟩)] w3 fun e w'=>e=.returned (.string (mk (wrt 64 t)))/\Hid (Below w.heap.size w w')):=fun B w3 hw hb hB hs =>
  (Quo.string_any (wrt 64 t) hw hs).mono (fun e w' g=>⟨g.1,hb.trans (g.2.2.1.mono hB)⟩)
 clear hb h hT hr hlen hp;subst hv;generalize wrt 64 t=X at *;generalize t.kind=k at *;generalize t.text=x at *;generalize t.anc=a at *;go_enter Tryz.func33,Tryz.ntmps33;go_wp2_with (go_at_call 16;refine HR.out.mono ?_;rintro e w1 ⟨rfl,H1⟩;have e0:w1.cell? ⟨w.heap.size,0,none⟩=some (.int .i64 k):=H1.out.2.cell 0;have e1:w1.cell? ⟨w.heap.size,1,none⟩=some (.string (mk x)):=H1.out.2.cell 1;have e2:w1.cell? ⟨w.heap.size,2,none⟩=some (.string (mk a)):=H1.out.2.cell 2;have e3:w1.cell? ⟨w.heap.size,3,none⟩=some (.slice ad len cap):=H1.out.2.cell 3;have hlt:w.heap.size<w1.heap.size:=H1.out.2.lt);refine(HWR.out w1 H1.out.1).mono ?_;rintro e w3 ⟨rfl,H3⟩;have hB:w.heap.size<=w1.heap.size:=by omega
 generalize w1.heap.size=K at *;have HS2:=HSG.out K w3 H3.out.1 H3.out.2.1 hB H3.out.2.2;go_wp2_with fail;refine HS2.mono ?_;rintro e w4 ⟨rfl,H4⟩;go_wp2;exact bodyPost_ret (v:=.tuple #[.string (mk X),.int .i64 0]) (by simp[results,Tryz.results33,go_sem]) rfl ⟨rfl,H4.out⟩
end Flw
end Go.Proofs.YtommfbbpomfnfaaGreatDoor
