/- . -/
import Derived.Test.YtidhpmcmbooaoaaGreatDoorR01RowsPlain
import Derived.Test.YtidhpmcmbooaoaaGreatDoorR26UtfDec
import Derived.Test.YtidhpmcmbooaoaaGreatDoorRows
import Derived.WalkKit
import Derived.WalkSpells
import Derived.WalkLawsBesides
set_option linter.unusedSimpArgs false
set_option linter.unusedVariables false
set_option maxRecDepth 100000
namespace Go.Proofs.YtidhpmcmbooaoaaGreatDoor
namespace Blk
open Go.RowKit
open Rws (mk mk_data mk_size mk_of mk_ext mk_get mk_inj)
theorem below_drewN {B:Nat} {a w:World} (h:Below B a w) (n:Nat):Below B a (w.drewN n):=⟨h.os,h.tape,h.output,h.size,h.block⟩
theorem add_plain (b off i:Nat):(⟨b,off,none⟩:Addr).add i=⟨b,off+i,none⟩:=by unfold Addr.add;split<;>simp_all
theorem ret_str {a b:ByteArray} (h:a=b):Ending.returned (.string a)=.returned (.string b):=by rw[h]
def StrsAt (w:World) (a:Option Addr) (len:Nat) (xs:List Ln):Prop :=
 len=xs.length/\(0<len->∃ b off,a=some ⟨b,off,none⟩/\b<w.heap.size/\∀ i,i<len->w.cell? ⟨b,off+i,none⟩=some (.string (mk (xs.getD i []))))
theorem StrsAt.later {w w':World} {a:Option Addr} {len:Nat} {xs:List Ln} (h:StrsAt w a len xs) {B:Nat} (hb:Below B w w') (hB:w.heap.size<=B):StrsAt w' a len xs:=by
 refine⟨h.1,fun hp=> ?_⟩;obtain⟨b,off,ha,hlt,hc⟩:=h.2 hp;have hbB:b<B:=Nat.lt_of_lt_of_le hlt hB;exact⟨b,off,ha,Nat.lt_of_lt_of_le hlt hb.size,fun i hi=>(hb.cell (p:=⟨b,off+i,none⟩) hbB).trans (hc i hi)⟩
theorem StrsAt.take {w:World} {a:Option Addr} {len:Nat} {xs:List Ln} (h:StrsAt w a len xs) (n:Nat) (hn:n<=len):StrsAt w a n (xs.take n):=by
 refine⟨by rw[List.length_take,<-h.1];omega,fun hp=> ?_⟩;obtain⟨b,off,ha,hlt,hc⟩:=h.2 (by omega);refine⟨b,off,ha,hlt,fun i hi=> ?_⟩;rw[hc i (by omega),List.getD_eq_getElem?_getD,List.getD_eq_getElem?_getD,List.getElem?_take,if_pos hi]
def strV (xs:List Ln):List Value:=xs.map fun l=>Value.string (mk l)
theorem strV_snoc (xs:List Ln) (x:Ln):strV (xs++[x])=strV xs++[Value.string (mk x)]:=by simp[strV]
theorem strs_own {w:World} {base:Nat} {v:Value} {xs:List Ln} (h:w.ownsRow base 9 1 v xs.length (strV xs)):∃ a cap,v=.slice a xs.length cap/\xs.length<=cap/\StrsAt w a xs.length xs:=by
 obtain⟨hl,h⟩:=h;rcases h with ⟨rfl,h0⟩ | ⟨g,cap,cur,rfl,hb,hg,hc,hm,hs,ht⟩
 ·rw[h0];exact⟨_,_,rfl,Nat.le_refl _,by simp[h0],fun h=>absurd h (by decide)⟩
 ·refine⟨_,_,rfl,by omega,rfl,fun _=>⟨g,0,rfl,(Array.getElem?_eq_some_iff.1 hg).1,?_⟩⟩;intro i hi
  have hv:(strV xs)[i]?=some (.string (mk (xs.getD i []))):=by
   unfold strV;rw[List.getElem?_map,List.getElem?_eq_getElem hi,List.getD_eq_getElem?_getD,List.getElem?_eq_getElem hi];rfl
  rw[<-ht,List.getElem?_take,if_pos (by omega)]at hv;simp only[Nat.zero_add];rw[cell_of_row w g _ cur 9 (0,0) hg];simpa using hv
theorem take_getD (xs:List Ln) (k:Nat) (h:k<xs.length):xs.take (k+1)=xs.take k++[xs.getD k []]:=by
 rw[List.take_succ_eq_append_getElem h,List.getD_eq_getElem?_getD,List.getElem?_eq_getElem h];rfl
theorem drop_getD (xs:List Ln) (k:Nat) (h:k<xs.length):xs.drop k=xs.getD k []::xs.drop (k+1):=by
 rw[List.drop_eq_getElem_cons h,List.getD_eq_getElem?_getD,List.getElem?_eq_getElem h];rfl
def z3:Rw:=(0,[],0)
def RwAt (w:World) (a:Option Addr) (len:Nat) (rs:List Rw):Prop :=
 len=rs.length/\(0<len->∃ b off,a=some ⟨b,off,none⟩/\b<w.heap.size/\∀ i,i<len ->
  w.cell? ⟨b,off+i*3,none⟩=some (.int .i64 (rs.getD i z3).1)/\w.cell? ⟨b,off+i*3+1,none⟩=some (.string (mk (rs.getD i z3).2.1))/\w.cell? ⟨b,off+i*3+2,none⟩=some (.int .i64 (rs.getD i z3).2.2))
theorem RwAt.later {w w':World} {a:Option Addr} {len:Nat} {rs:List Rw} (h:RwAt w a len rs) {B:Nat} (hb:Below B w w') (hB:w.heap.size<=B):RwAt w' a len rs:=by
 refine⟨h.1,fun hp=> ?_⟩;obtain⟨b,off,ha,hlt,hc⟩:=h.2 hp;have hbB:b<B:=Nat.lt_of_lt_of_le hlt hB;refine⟨b,off,ha,Nat.lt_of_lt_of_le hlt hb.size,fun i hi=> ?_⟩;obtain⟨c0,c1,c2⟩:=hc i hi;exact⟨(hb.cell (p:=⟨b,off+i*3,none⟩) hbB).trans c0,(hb.cell (p:=⟨b,off+i*3+1,none⟩) hbB).trans c1,(hb.cell (p:=⟨b,off+i*3+2,none⟩) hbB).trans c2⟩
theorem drop_getR (rs:List Rw) (k:Nat) (h:k<rs.length):rs.drop k=rs.getD k z3::rs.drop (k+1):=by
 rw[List.drop_eq_getElem_cons h,List.getD_eq_getElem?_getD,List.getElem?_eq_getElem h];rfl
theorem mk_nil_eq (l:Ln):((mk l).toList==[])=decide (l=[]):=by
 rw[ByteArray.toList_eq,mk_data];cases l<;>simp
end Blk
end Go.Proofs.YtidhpmcmbooaoaaGreatDoor
