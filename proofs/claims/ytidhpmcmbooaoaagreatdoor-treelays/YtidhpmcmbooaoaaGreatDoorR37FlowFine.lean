/- . -/
import Derived.Test.YtidhpmcmbooaoaaGreatDoorR05FlowMem
import Derived.Deep.RegionWith
set_option linter.unusedSimpArgs false
set_option linter.unusedVariables false
set_option maxRecDepth 100000
namespace Go.Proofs.YtidhpmcmbooaoaaGreatDoor
namespace Flw
open Utf Rws Pln
open Go.RowKit
set_option maxHeartbeats 4000000
def fineT:Nat->Tr->Prop
 | 0,_=>False
 | m+1,t=>t.text.length<=3000/\t.anc.length<=3000/\∀ i,i<t.kids.length->fineT m (t.kids.getD i tr0)
def sumT (m:Nat) (ks:List Tr) (j:Nat):Nat:=((ks.take j).map fun k=>cntT m k).sum
theorem sumT_succ (m:Nat) (ks:List Tr) (j:Nat) (h:j<ks.length):sumT m ks (j+1)=sumT m ks j+cntT m (ks.getD j tr0):=by
 unfold sumT;rw[List.take_succ_eq_append_getElem h,List.map_append,List.sum_append,List.getD_eq_getElem?_getD,List.getElem?_eq_getElem h];simp
end Flw
end Go.Proofs.YtidhpmcmbooaoaaGreatDoor
