/- . -/
import Derived.Test.YtidhpmcmbooaoaaGreatDoorR05FlowMem
import Derived.ProofKit
import Derived.OpenShut
import Derived.SliceStrings
import Derived.SizedLaws
import Derived.Deep.SlicePairs
import Derived.Lib.SmallJoins
set_option linter.unusedSimpArgs false
set_option linter.unusedVariables false
set_option maxRecDepth 100000
namespace Go.Proofs.YtidhpmcmbooaoaaGreatDoor
namespace Flw
open Utf Rws Pln
open Go.ChangeShapes Go.WideShapes Go.ChangeAt Go.RowKit
section
variable {H:Type} {enc:TypeId × Value->H} {W:World} {base:Nat} {held:Bool}
theorem i64_bounds {z:Int} (w:(Lit.int .i64 z).wf=true): -9223372036854775808<=z/\z<=9223372036854775807:=by
 simp only[Lit.wf,Bool.and_eq_true,decide_eq_true_eq]at w;simp[IntKind.min,IntKind.max,IntKind.bits,IntKind.signed]at w;omega
theorem trod_struct4 {P:Program} {spare:Nat->Bool} {t:TypeId} {fuel:Nat} {f0 f1 f2 f3:Field} {cs:List Value} {x:DataW H × List MemPlace} (ht:P.underlying t=some (.struct #[f0,f1,f2,f3])) (h:DataW.trod enc P W base spare held fuel t cs=some x) :
  ∃ y0 y1 y2 y3 n,fuel=n+1/\cs.length=P.cellsOf t/\DataW.trod enc P W base spare held n f0.type ((cs.drop f0.offset).take (P.cellsOf f0.type))=some y0/\DataW.trod enc P W base spare held n f1.type ((cs.drop f1.offset).take (P.cellsOf f1.type))=some y1 /\
   DataW.trod enc P W base spare held n f2.type ((cs.drop f2.offset).take (P.cellsOf f2.type))=some y2/\DataW.trod enc P W base spare held n f3.type ((cs.drop f3.offset).take (P.cellsOf f3.type))=some y3:=by
 obtain⟨xs,n,hn,rfl,hl,hlen,hf⟩:=DataW.trod_struct ht h
 match xs,hlen with
 | [y0,y1,y2,y3],_=>exact⟨y0,y1,y2,y3,n,hn,hl,by simpa using hf 0 f0 rfl,by simpa using hf 1 f1 rfl,by simpa using hf 2 f2 rfl,by simpa using hf 3 f3 rfl⟩
theorem came_tree:∀ (N fuel:Nat),fuel<=N->∀ (cs:List Value) (x:DataW H × List MemPlace),DataW.trod enc Tryz.prog W base (fun _=>true) held fuel 24 cs=some x->∃ t,TrV W (N+1) (.agg cs.toArray) t
 | 0,fuel,hN,cs,x,h=>by
  obtain⟨_,n,hn,_⟩:=DataW.trod_struct Tryz.underlying24 h;omega
 | N+1,fuel,hN,cs,x,h=>by
  have hC:Tryz.prog.cellsOf 24=4:=by kernel_rfl
  have c0:Tryz.prog.cellsOf 3=1:=by kernel_rfl
  have c1:Tryz.prog.cellsOf 9=1:=by kernel_rfl
  have c3:Tryz.prog.cellsOf 22=1:=by kernel_rfl
  obtain⟨y0,y1,y2,y3,n,hn,hl,g0,g1,g2,g3⟩:=trod_struct4 Tryz.underlying24 h;rw[hC]at hl;simp only[c0,c1,c3]at g0 g1 g2 g3
  match cs,hl with
  | [v0,v1,v2,v3],_ =>
   simp at g0 g1 g2 g3;obtain⟨z0,e0,_,w0⟩:=DataW.trod_int Tryz.underlying3 g0;obtain⟨z1,e1,_,s1⟩:=DataW.trod_string Tryz.underlying9 g1;obtain⟨z2,e2,_,s2⟩:=DataW.trod_string Tryz.underlying9 g2;cases e0;cases e1;cases e2;have b0:=i64_bounds w0;have m1:maxLen=9223372036854775807:=rfl
   have l1:z1.data.toList.length<=9223372036854775807:=by
    have e:z1.data.toList.length=z1.size:=by rw[Array.length_toList];rfl
    rw[e];omega
   have l2:z2.data.toList.length<=9223372036854775807:=by
    have e:z2.data.toList.length=z2.size:=by rw[Array.length_toList];rfl
    rw[e];omega
   rcases DataW.trod_slice Tryz.underlying22 g3 with ⟨q,_⟩ | ⟨a,len,cap,elems,rest,n',hn',q,_,_,hlc,hcm,hel,hx,_⟩
   ·simp at q;subst q;refine⟨⟨z0,z1.data.toList,z2.data.toList,[]⟩,none,0,0,?_,rfl,Nat.le_refl _,Nat.zero_le _,⟨b0.1,b0.2,l1,l2⟩,fun h=>absurd h (by decide)⟩;simp only[mk_of]
   ·simp at q;subst q
    have each:∀ i,i<len->∃ p:(Value × Value × Value × Value) × Tr,W.cell? (a.add (i*4))=some p.1.1/\W.cell? (a.add (i*4+1))=some p.1.2.1/\W.cell? (a.add (i*4+2))=some p.1.2.2.1/\W.cell? (a.add (i*4+3))=some p.1.2.2.2/\TrV W (N+1) (.agg #[p.1.1,p.1.2.1,p.1.2.2.1,p.1.2.2.2]) p.2:=by
     intro i hi;have hxi:=hx i hi;rw[hC,List.getElem?_eq_getElem (by omega)]at hxi;obtain⟨cs',h1,h2⟩:=Option.bind_eq_some_iff.1 hxi;obtain⟨t,ht⟩:=came_tree N n' (by omega) cs' _ h2;obtain⟨_,hlen,hcell⟩:=World.cells?_some h1
     match cs',hlen with
     | [u0,u1,u2,u3],_ =>
      have k0:=hcell 0 (by omega);have k1:=hcell 1 (by omega);have k2:=hcell 2 (by omega);have k3:=hcell 3 (by omega);rw[Deep.add_add]at k0 k1 k2 k3;exact⟨((u0,u1,u2,u3),t),by simpa using k0,by simpa using k1,by simpa using k2,by simpa using k3,ht⟩
    have inh:Inhabited ((Value × Value × Value × Value) × Tr):=⟨((undef,undef,undef,undef),tr0)⟩;obtain⟨f,hf⟩:=Deep.choose_lt each;refine⟨⟨z0,z1.data.toList,z2.data.toList,(List.range len).map fun i=>(f i).2⟩,some a,len,cap,?_,by simp,hlc,hcm,⟨b0.1,b0.2,l1,l2⟩,fun hp=> ?_⟩
    ·simp only[mk_of]
    ·obtain⟨b,off,spot⟩:=a;have hspot:spot=none:=by simpa [Addr.add]using World.cell?_spot (hf 0 (by omega)).1
     subst hspot;have ap:∀ i,(⟨b,off,none⟩:Addr).add i=⟨b,off+i,none⟩:=fun i=>by unfold Addr.add;split<;>simp_all
     refine⟨b,off,rfl,World.block_lt_of_cell? W ⟨b,off+0*4,none⟩ (by have:=(hf 0 (by omega)).1;rwa [ap]at this),fun i hi=> ?_⟩;obtain⟨k0,k1,k2,k3,ht⟩:=hf i hi;rw[ap]at k0 k1 k2 k3
     have e:((List.range len).map fun i=>(f i).2).getD i tr0=(f i).2:=by
      rw[List.getD_eq_getElem?_getD,List.getElem?_map,List.getElem?_range hi];rfl
     refine⟨_,_,_,_,k0,k1,k2,k3,?_⟩;show TrV W (N+1) _ (((List.range len).map fun i=>(f i).2).getD i tr0);rw[e];exact ht
end
end Flw
namespace Flw
open Go.ChangeShapes Go.WideShapes Go.ChangeAt Go.RowKit
section
variable {H:Type} {enc:TypeId × Value->H} {W:World} {base:Nat} {held:Bool}
theorem came_treev {r:Reach} {b0:Nat} {v:Value} {d:DataW H} {p:List MemPlace} (hv:Value.okWide Tryz.prog W r b0 24 v) (h:DataW.Trod enc Tryz.prog W base (fun _=>true) held 24 v d p) :
  ∃ n t,TrV W n v t:=by
 obtain⟨cs,rfl,hsz⟩:=okWide_struct Tryz.underlying24 hv;obtain⟨fuel,hf⟩:=h;obtain⟨t,ht⟩:=came_tree fuel fuel (Nat.le_refl _) _ _ hf;exact⟨fuel+1,t,by simpa [Value.cells]using ht⟩
end
end Flw
end Go.Proofs.YtidhpmcmbooaoaaGreatDoor
