/- . -/
import Derived.Test.YtalijhclfppohaaGreatDoorR14BlockMem
import Derived.ProofKit
import Derived.OpenShut
import Derived.SliceStrings
import Derived.SizedLaws
import Derived.Deep.SlicePairs
import Derived.Deep.Strs
import Derived.Lib.SmallJoins
import Derived.Test.YtalijhclfppohaaGreatDoorRM51LoadRsm
set_option linter.unusedSimpArgs false
set_option linter.unusedVariables false
set_option maxRecDepth 100000
namespace Go.Proofs.YtalijhclfppohaaGreatDoor
namespace Blk
open Go.ChangeShapes Go.WideShapes Go.ChangeAt Go.RowKit
open Rws (mk mk_data mk_size mk_of mk_ext mk_get mk_inj)
theorem weights_all {H:Type} {P:Program} {e:TypeId}:∀ {ds:List (DataW H)} {d:DataW H},d∈ds->∀ n∈d.weights P e,n∈DataW.weightsAll P e ds
 | [],d,h,_,_=>by cases h
 | x::r,d,h,n,hn=>by
  simp only[DataW.weightsAll,List.mem_append];rcases List.mem_cons.1 h with rfl | h
  ·exact .inl hn
  ·exact .inr (weights_all h n hn)
theorem sized_in {H:Type} {P:Program} {ts:List TypeId} {ds:List (DataW H)} (h:(DataW.weightsEach P ts ds).all (· <= reachBytes)=true) {j:Nat} {t e:TypeId} {elems spare:List (DataW H)} (ht:ts[j]?=some t) (hd:ds[j]?=some (.slice elems spare)) (hu:P.underlying t=some (.slice e)) :
  ∀ d∈elems,∀ n∈d.weights P e,n<=reachBytes:=by
 intro d hd' n hn
 have:=List.all_eq_true.1 h _ (DataW.weights_mem_each ht hd n (by
  simp only[DataW.weights,hu,List.mem_cons,List.mem_append];exact .inr (.inl (weights_all hd' n hn))))
 simpa using this
def SArg (W:World) (a:Option Addr) (len cap:Nat) (xs:List Ln):Prop:=StrsAt W a len xs/\len<=cap/\cap<=maxLen/\∀ x∈xs,x.length<=140737488351232
theorem came_strs {H:Type} {enc:TypeId × Value->H} {W:World} {fuel:Nat} {a:Option Addr} {len cap:Nat} {x:DataW H × List MemPlace}
  (hf:DataW.trod enc Tryz.prog W 0 (fun _=>true) true fuel 28 [.slice a len cap]=some x)
  (hs:∀ elems spare,x.1=.slice elems spare->∀ d∈elems,∀ n∈d.weights Tryz.prog 9,n<=reachBytes):∃ xs,SArg W a len cap xs:=by
 rcases open_strings Tryz.underlying28 Tryz.underlying9 (by kernel_rfl) hf with ⟨hcs,_⟩ | ⟨ad,len',cap',ss,hcs,_,hl,hm,hz,hx,hcell,hsz⟩
 ·simp at hcs;obtain⟨rfl,rfl,rfl⟩:=hcs;exact⟨[],⟨rfl,fun h=>absurd h (by decide)⟩,Nat.le_refl _,Nat.zero_le _,fun x h=>by cases h⟩
 ·simp at hcs;obtain⟨rfl,rfl,rfl⟩:=hcs;simp only[if_true]at hz;refine⟨(ss.take len).map (·.data.toList),⟨by rw[List.length_map,List.length_take];omega,fun hp=> ?_⟩,hl,hm,?_⟩
  ·obtain⟨b,off,spot⟩:=ad;have hc0:=hcell 0 (by omega);have hspot:spot=none:=by simpa [Addr.add]using World.cell?_spot hc0
   subst hspot;refine⟨b,off,rfl,World.block_lt_of_cell? W _ hc0,fun i hi=> ?_⟩;have h:=hcell i (by omega);rw[add_plain]at h;have hi':ss[i]?=some (ss[i]'(by omega)):=List.getElem?_eq_getElem (by omega);rw[h,List.getD_eq_getElem?_getD,List.getD_eq_getElem?_getD,List.getElem?_map,List.getElem?_take,if_pos hi,hi'];simp only[Option.map_some,Option.getD_some];rw[mk_of]
  ·intro y hy;obtain⟨s,hs',rfl⟩:=List.mem_map.1 hy;have:=hs _ _ (congrArg Prod.fst hx) (.lit (.string s.data.toList)) (List.mem_map.2 ⟨s,hs',rfl⟩) s.data.toList.length (by simp[DataW.weights]);simp only[reachBytes]at this;omega
end Blk
namespace Lod
open Go.RowKit
theorem lmany_walk (a:Option Addr) (len cap:Nat) (xs:List (List UInt8)) (w:World) (h:Blk.SArg w a len cap xs) (hT:Flw.Tb w):Calls Tryz.prog 4 #[.slice a len cap] w fun e w'=>e=.returned (.bool true)/\Below w.heap.size w w':=lmany_core a len cap xs w h.1 h.2.1 h.2.2.1 h.2.2.2 hT
end Lod
end Go.Proofs.YtalijhclfppohaaGreatDoor
