/- . -/
import Derived.Test.YtidhpmcmbooaoaaGreatDoorR34BlockLeaf
import Derived.Test.YtidhpmcmbooaoaaGreatDoorR35BlockStep
import Derived.Test.YtidhpmcmbooaoaaGreatDoorR32FlowItem
import Derived.Test.YtidhpmcmbooaoaaGreatDoorR05FlowMem
import Derived.Test.YtidhpmcmbooaoaaGreatDoorR06TreeLeaf
import Derived.Test.YtidhpmcmbooaoaaGreatDoorR24FlowScal
import Derived.Test.YtidhpmcmbooaoaaGreatDoorR01RowsPlain
set_option linter.unusedSimpArgs false
set_option linter.unusedVariables false
set_option maxRecDepth 100000
namespace Go.Proofs.YtidhpmcmbooaoaaGreatDoor
namespace Blk
open Go.RowKit
open Rws (mk mk_data mk_size mk_of mk_ext mk_get mk_inj)
theorem foC_len (g:Bool) (e:Nat) (f:Bool) (x:Ln) (r:List Ln):x.length<=(foC g e f (x::r)).length:=by
 rw[foC];split
 ·rename_i h;rw[h];exact Nat.zero_le _
 ·rw[List.length_append,List.length_append];omega
theorem flat_head (x:Ln) (h:x≠[]):flat x= !(x.head?==some 32):=by
 cases x with
 | nil=>exact absurd rfl h
 | cons b r=>simp[flat];rfl
set_option maxHeartbeats 1000000 in
theorem fold_any (a:Option Addr) (len cap:Nat) (xs:List Ln) (w:World) (h:StrsAt w a len xs) (hl:len<=140737488355327) (hb:(fld xs).length<=140737488355328) :
  Calls Tryz.prog 106 #[.slice a len cap] w fun e w'=>e=.returned (.string (mk (fld xs)))/\Below w.heap.size w w':=by
 have HZ:Hid (StrsAt w a len xs):=h;clear h;go_enter Tryz.func106,Tryz.ntmps106;go_wp2
 go_loopw [4,5,11] (fun ue uf ui wr=>∃ (k e:Nat) (f:Bool) (T:Ln),k<=len/\ui=.int .i64 (k:Int)/\ue=.int .i64 (e:Int)/\uf=.bool f/\e<=k/\(k=0->e=0/\f=false)/\Lib.IsBuilderF 53 5 w.heap.size w.heap.size (Lib.byteCells T) wr/\Below w.heap.size w wr/\fld xs=T++foC (decide (0<k)) e f (xs.drop k)) (fun _ _ ui _=>len-(intOf ui).toNat)
 case atStart=>exact⟨0,0,false,[],Nat.zero_le _,rfl,rfl,rfl,Nat.le_refl _,fun _=>⟨rfl,rfl⟩,Lib.IsBuilderF.of (Lib.fresh_isBuilder _ _ w),(Below.refl _ w).alloc (Nat.le_refl _) _,(foC_all xs).symm⟩
 case round =>
  obtain⟨k,e,f,T,hk,rfl,rfl,rfl,hek,hk0,hB0,hbe1,hF⟩:=hrel;have HB:Hid (Lib.IsBuilderF 53 5 w.heap.size w.heap.size (Lib.byteCells T) wr):=hB0;have HK0:Hid (k=0->e=0/\f=false):=hk0;have hF0:Hid (fld xs=T++foC (decide (0<k)) e f (xs.drop k)):=hF;clear hF hk0 hB0;have hws:=hbe1.size;by_cases hlt:k<len
  ·obtain⟨b,off,rfl,hbb,hc⟩:=HZ.out.2 (by omega);have c0:=(hbe1.cell (p:=⟨b,off+k,none⟩) hbb).trans (hc k hlt);have HD:Hid (xs.drop k=xs.getD k []::xs.drop (k+1)):=drop_getD xs k (by rw[<-HZ.out.1];exact hlt);obtain⟨x,hx⟩:∃ x,x=xs.getD k []:=⟨_,rfl⟩;rw[<-hx]at c0 HD;clear hx hc
   have hxl:x.length<=140737488355328:=by
    have h1:=foC_len (decide (0<k)) e f x (xs.drop (k+1));have h2:=hb;rw[hF0.out,HD.out,List.length_append]at h2;omega
   rcases Nat.eq_zero_or_pos k with hk0 | hk0
   ·obtain⟨he0,hf0⟩:=HK0.out hk0;have HF:Hid (fld xs=T++foC false 0 false (x::xs.drop (k+1))):=by rw[hF0.out,HD.out,he0,hf0,hk0];exact rfl
    subst he0 hf0;clear HD hF0 HK0;subst hk0;rw[Nat.add_zero]at c0;by_cases hx0:x=[]
    ·have HE:Hid (fld xs=T++foC true 0 false (xs.drop (0+1))):=by rw[HF.out,foC,if_pos hx0];exact rfl
     rw[hx0,show mk []=(⟨#[]⟩:ByteArray)from rfl]at c0;go_wp2;go_roundw
     case rel=>exact⟨0+1,0,false,T,by omega,by go_num,by go_num,rfl,by omega,fun h=>absurd h (by omega),HB.out,hbe1,by rw[show decide (0<0+1)=true from by simp];exact HE.out⟩
     case measure=>(simp[intOf]<;>omega)
    have hq:((mk x).toList==[])=false:=by rw[mk_nil_eq];simpa using hx0
    have hfl:flat x= !(x.head?==some 32):=flat_head x hx0;have HE:Hid (fld xs=T++(btw 0 (false && flat x)++x++foC true 0 (flat x) (xs.drop (0+1)))):=by rw[HF.out,foC,if_neg hx0];exact rfl
    have hbl:=hb;rw[HE.out,List.length_append,List.length_append,List.length_append]at hbl;obtain⟨p,hp⟩:∃ p,p=(x.head?==some 32):=⟨_,rfl⟩;have HP:Hid (p=(x.head?==some 32)):=hp;rw[<-hp]at hfl;rw[hfl]at HE hbl;clear hp hfl HF;cases p
    ·go_wp2_with (first | (go_at_call 52;refine(hasPrefix_any x 32 _ hxl).mono ?_;rintro e' w' ⟨rfl,rfl⟩;rw[<-HP.out]));have hbt:=between_any 0 false wr (by intro h;first | omega | (cases h)) (by omega);rw[show (false && !false)=false from rfl,show (!false)=true from rfl]at HE;rw[show (false && !false)=false from rfl]at hbl;rw[show ((0:Nat):Int)=0 from rfl]at hbt;refine hbt.mono ?_;clear hbt;rintro e' w1 ⟨rfl,hb1⟩;have B1:=bld_later HB.out hb1;have s1:=hb1.size;have hbe2:Below w.heap.size w w1:=hbe1.trans (hb1.mono hws);go_wp2_with fail;refine(writeString_any w.heap.size w.heap.size _ (mk (btw 0 false)) _ B1 (by rw[Lib.byteCells_length,mk_size];omega) (by omega)).mono ?_;rintro e' w2 ⟨rfl,B2,hb2,o2⟩;rw[strCells_mk,<-byteCells_app]at B2;have hbe3:=hbe2.trans hb2;have s2:=hb2.size;clear o2 B1;go_wp2_with fail;refine(writeString_any w.heap.size w.heap.size _ (mk x) _ (.inr B2) (by rw[Lib.byteCells_length,mk_size,List.length_append];omega) (by omega)).mono ?_;rintro e' w3 ⟨rfl,B3,hb3,o3⟩;rw[strCells_mk,<-byteCells_app]at B3;have hbe4:=hbe3.trans hb3;clear o3 B2;go_wp2;go_roundw
     case rel=>exact⟨0+1,0,true,T++btw 0 false++x,by omega,by go_num,rfl,rfl,by omega,fun h=>absurd h (by omega),.inr B3,hbe4,by rw[HE.out,show decide (0<0+1)=true from by simp];simp only[List.append_assoc]⟩
     case measure=>(simp[intOf]<;>omega)
    ·go_wp2_with (first | (go_at_call 52;refine(hasPrefix_any x 32 _ hxl).mono ?_;rintro e' w' ⟨rfl,rfl⟩;rw[<-HP.out]));have hbt:=between_any 0 false wr (by intro h;first | omega | (cases h)) (by omega);rw[show (false && !true)=false from rfl,show (!true)=false from rfl]at HE;rw[show (false && !true)=false from rfl]at hbl;rw[show ((0:Nat):Int)=0 from rfl]at hbt;refine hbt.mono ?_;clear hbt;rintro e' w1 ⟨rfl,hb1⟩;have B1:=bld_later HB.out hb1;have s1:=hb1.size;have hbe2:Below w.heap.size w w1:=hbe1.trans (hb1.mono hws);go_wp2_with fail;refine(writeString_any w.heap.size w.heap.size _ (mk (btw 0 false)) _ B1 (by rw[Lib.byteCells_length,mk_size];omega) (by omega)).mono ?_;rintro e' w2 ⟨rfl,B2,hb2,o2⟩;rw[strCells_mk,<-byteCells_app]at B2;have hbe3:=hbe2.trans hb2;have s2:=hb2.size;clear o2 B1;go_wp2_with fail;refine(writeString_any w.heap.size w.heap.size _ (mk x) _ (.inr B2) (by rw[Lib.byteCells_length,mk_size,List.length_append];omega) (by omega)).mono ?_;rintro e' w3 ⟨rfl,B3,hb3,o3⟩;rw[strCells_mk,<-byteCells_app]at B3;have hbe4:=hbe3.trans hb3;clear o3 B2;go_wp2;go_roundw
     case rel=>exact⟨0+1,0,false,T++btw 0 false++x,by omega,by go_num,rfl,rfl,by omega,fun h=>absurd h (by omega),.inr B3,hbe4,by rw[HE.out,show decide (0<0+1)=true from by simp];simp only[List.append_assoc]⟩
     case measure=>(simp[intOf]<;>omega)
   ·have HF:Hid (fld xs=T++foC true e f (x::xs.drop (k+1))):=by rw[hF0.out,HD.out,show decide (0<k)=true from by simpa using hk0];exact rfl
    clear HD hF0 HK0;by_cases hx0:x=[]
    ·have HE:Hid (fld xs=T++foC true (e+1) f (xs.drop (k+1))):=by rw[HF.out,foC,if_pos hx0];exact rfl
     rw[hx0,show mk []=(⟨#[]⟩:ByteArray)from rfl]at c0;go_wp2;go_roundw
     case rel=>exact⟨k+1,(e+1),f,T,by omega,by go_num,by go_num,rfl,by omega,fun h=>absurd h (by omega),HB.out,hbe1,by rw[show decide (0<k+1)=true from by simp];exact HE.out⟩
     case measure=>(simp[intOf]<;>omega)
    have hq:((mk x).toList==[])=false:=by rw[mk_nil_eq];simpa using hx0
    have hfl:flat x= !(x.head?==some 32):=flat_head x hx0;have HE:Hid (fld xs=T++(btw (e+1) (f && flat x)++x++foC true 0 (flat x) (xs.drop (k+1)))):=by rw[HF.out,foC,if_neg hx0];exact rfl
    have hbl:=hb;rw[HE.out,List.length_append,List.length_append,List.length_append]at hbl;obtain⟨p,hp⟩:∃ p,p=(x.head?==some 32):=⟨_,rfl⟩;have HP:Hid (p=(x.head?==some 32)):=hp;rw[<-hp]at hfl;rw[hfl]at HE hbl;clear hp hfl HF;cases f
    ·cases p
     ·go_wp2_with (first | (go_at_call 52;refine(hasPrefix_any x 32 _ hxl).mono ?_;rintro e' w' ⟨rfl,rfl⟩;rw[<-HP.out]));have hbt:=between_any (e+1) false wr (by intro h;first | omega | (cases h)) (by omega);rw[show (false && !false)=false from rfl,show (!false)=true from rfl]at HE;rw[show (false && !false)=false from rfl]at hbl;rw[show ((e+1:Nat):Int)=(e:Int)+1 by omega]at hbt;refine hbt.mono ?_;clear hbt;rintro e' w1 ⟨rfl,hb1⟩;have B1:=bld_later HB.out hb1;have s1:=hb1.size;have hbe2:Below w.heap.size w w1:=hbe1.trans (hb1.mono hws);go_wp2_with fail;refine(writeString_any w.heap.size w.heap.size _ (mk (btw (e+1) false)) _ B1 (by rw[Lib.byteCells_length,mk_size];omega) (by omega)).mono ?_;rintro e' w2 ⟨rfl,B2,hb2,o2⟩;rw[strCells_mk,<-byteCells_app]at B2;have hbe3:=hbe2.trans hb2;have s2:=hb2.size;clear o2 B1;go_wp2_with fail;refine(writeString_any w.heap.size w.heap.size _ (mk x) _ (.inr B2) (by rw[Lib.byteCells_length,mk_size,List.length_append];omega) (by omega)).mono ?_;rintro e' w3 ⟨rfl,B3,hb3,o3⟩;rw[strCells_mk,<-byteCells_app]at B3;have hbe4:=hbe3.trans hb3;clear o3 B2;go_wp2;go_roundw
      case rel=>exact⟨k+1,0,true,T++btw (e+1) false++x,by omega,by go_num,rfl,rfl,by omega,fun h=>absurd h (by omega),.inr B3,hbe4,by rw[HE.out,show decide (0<k+1)=true from by simp];simp only[List.append_assoc]⟩
      case measure=>(simp[intOf]<;>omega)
     ·go_wp2_with (first | (go_at_call 52;refine(hasPrefix_any x 32 _ hxl).mono ?_;rintro e' w' ⟨rfl,rfl⟩;rw[<-HP.out]));have hbt:=between_any (e+1) false wr (by intro h;first | omega | (cases h)) (by omega);rw[show (false && !true)=false from rfl,show (!true)=false from rfl]at HE;rw[show (false && !true)=false from rfl]at hbl;rw[show ((e+1:Nat):Int)=(e:Int)+1 by omega]at hbt;refine hbt.mono ?_;clear hbt;rintro e' w1 ⟨rfl,hb1⟩;have B1:=bld_later HB.out hb1;have s1:=hb1.size;have hbe2:Below w.heap.size w w1:=hbe1.trans (hb1.mono hws);go_wp2_with fail;refine(writeString_any w.heap.size w.heap.size _ (mk (btw (e+1) false)) _ B1 (by rw[Lib.byteCells_length,mk_size];omega) (by omega)).mono ?_;rintro e' w2 ⟨rfl,B2,hb2,o2⟩;rw[strCells_mk,<-byteCells_app]at B2;have hbe3:=hbe2.trans hb2;have s2:=hb2.size;clear o2 B1;go_wp2_with fail;refine(writeString_any w.heap.size w.heap.size _ (mk x) _ (.inr B2) (by rw[Lib.byteCells_length,mk_size,List.length_append];omega) (by omega)).mono ?_;rintro e' w3 ⟨rfl,B3,hb3,o3⟩;rw[strCells_mk,<-byteCells_app]at B3;have hbe4:=hbe3.trans hb3;clear o3 B2;go_wp2;go_roundw
      case rel=>exact⟨k+1,0,false,T++btw (e+1) false++x,by omega,by go_num,rfl,rfl,by omega,fun h=>absurd h (by omega),.inr B3,hbe4,by rw[HE.out,show decide (0<k+1)=true from by simp];simp only[List.append_assoc]⟩
      case measure=>(simp[intOf]<;>omega)
    ·cases p
     ·go_wp2_with (first | (go_at_call 52;refine(hasPrefix_any x 32 _ hxl).mono ?_;rintro e' w' ⟨rfl,rfl⟩;rw[<-HP.out]));have hbt:=between_any (e+1) true wr (by intro h;first | omega | (cases h)) (by omega);rw[show (true && !false)=true from rfl,show (!false)=true from rfl]at HE;rw[show (true && !false)=true from rfl]at hbl;rw[show ((e+1:Nat):Int)=(e:Int)+1 by omega]at hbt;refine hbt.mono ?_;clear hbt;rintro e' w1 ⟨rfl,hb1⟩;have B1:=bld_later HB.out hb1;have s1:=hb1.size;have hbe2:Below w.heap.size w w1:=hbe1.trans (hb1.mono hws);go_wp2_with fail;refine(writeString_any w.heap.size w.heap.size _ (mk (btw (e+1) true)) _ B1 (by rw[Lib.byteCells_length,mk_size];omega) (by omega)).mono ?_;rintro e' w2 ⟨rfl,B2,hb2,o2⟩;rw[strCells_mk,<-byteCells_app]at B2;have hbe3:=hbe2.trans hb2;have s2:=hb2.size;clear o2 B1;go_wp2_with fail;refine(writeString_any w.heap.size w.heap.size _ (mk x) _ (.inr B2) (by rw[Lib.byteCells_length,mk_size,List.length_append];omega) (by omega)).mono ?_;rintro e' w3 ⟨rfl,B3,hb3,o3⟩;rw[strCells_mk,<-byteCells_app]at B3;have hbe4:=hbe3.trans hb3;clear o3 B2;go_wp2;go_roundw
      case rel=>exact⟨k+1,0,true,T++btw (e+1) true++x,by omega,by go_num,rfl,rfl,by omega,fun h=>absurd h (by omega),.inr B3,hbe4,by rw[HE.out,show decide (0<k+1)=true from by simp];simp only[List.append_assoc]⟩
      case measure=>(simp[intOf]<;>omega)
     ·go_wp2_with (first | (go_at_call 52;refine(hasPrefix_any x 32 _ hxl).mono ?_;rintro e' w' ⟨rfl,rfl⟩;rw[<-HP.out]));have hbt:=between_any (e+1) false wr (by intro h;first | omega | (cases h)) (by omega);rw[show (true && !true)=false from rfl,show (!true)=false from rfl]at HE;rw[show (true && !true)=false from rfl]at hbl;rw[show ((e+1:Nat):Int)=(e:Int)+1 by omega]at hbt;refine hbt.mono ?_;clear hbt;rintro e' w1 ⟨rfl,hb1⟩;have B1:=bld_later HB.out hb1;have s1:=hb1.size;have hbe2:Below w.heap.size w w1:=hbe1.trans (hb1.mono hws);go_wp2_with fail;refine(writeString_any w.heap.size w.heap.size _ (mk (btw (e+1) false)) _ B1 (by rw[Lib.byteCells_length,mk_size];omega) (by omega)).mono ?_;rintro e' w2 ⟨rfl,B2,hb2,o2⟩;rw[strCells_mk,<-byteCells_app]at B2;have hbe3:=hbe2.trans hb2;have s2:=hb2.size;clear o2 B1;go_wp2_with fail;refine(writeString_any w.heap.size w.heap.size _ (mk x) _ (.inr B2) (by rw[Lib.byteCells_length,mk_size,List.length_append];omega) (by omega)).mono ?_;rintro e' w3 ⟨rfl,B3,hb3,o3⟩;rw[strCells_mk,<-byteCells_app]at B3;have hbe4:=hbe3.trans hb3;clear o3 B2;go_wp2;go_roundw
      case rel=>exact⟨k+1,0,false,T++btw (e+1) false++x,by omega,by go_num,rfl,rfl,by omega,fun h=>absurd h (by omega),.inr B3,hbe4,by rw[HE.out,show decide (0<k+1)=true from by simp];simp only[List.append_assoc]⟩
      case measure=>(simp[intOf]<;>omega)
  ·have HE:Hid (fld xs=T++List.replicate e 10):=by rw[hF0.out,List.drop_of_length_le (by rw[<-HZ.out.1];omega)];cases hq:decide (0<k)<;>exact rfl
   have hbl:=hb;rw[HE.out,List.length_append,List.length_replicate]at hbl;clear hF0 HK0;go_wp2_with fail;refine(rep_any 10 e _ (by omega)).mono ?_;rintro e' w1 ⟨rfl,hb1⟩;have B1:=bld_later HB.out hb1;have s1:=hb1.size;have hbe2:Below w.heap.size w w1:=hbe1.trans (hb1.mono hws);go_wp2_with fail;refine(writeString_any w.heap.size w.heap.size _ (mk (List.replicate e 10)) _ B1 (by rw[Lib.byteCells_length,mk_size,List.length_replicate];omega) (by omega)).mono ?_;rintro e' w2 ⟨rfl,B2,hb2,o2⟩;rw[strCells_mk,<-byteCells_app,<-HE.out]at B2;have hbe3:=hbe2.trans hb2;have s2:=hb2.size;go_wp2_with fail;refine(string_any w.heap.size w.heap.size (fld xs) _ (.inr B2) (by omega)).mono ?_;rintro e' w3 ⟨rfl,_,hb3,_⟩;go_wp2;go_ret;exact⟨rfl,hbe3.trans hb3⟩
end Blk
namespace Blk
open Go.RowKit
open Rws (mk mk_data mk_size mk_of mk_ext mk_get mk_inj)
theorem join_lib (c:UInt8):∀ xs:List Ln,Lib.join xs [c]=joinW c xs
 | []=>rfl
 | [x]=>by simp[Lib.join,joinW]
 | x::y::t=>by
  have ih:=join_lib c (y::t);rw[join_cons,<-ih];simp[Lib.join]
theorem join_any (a:Option Addr) (len cap:Nat) (xs:List Ln) (w:World) (h:StrsAt w a len xs) (hc:len<=cap) (hl:len<=140737488355328) (hb:(joinW 10 xs).length<=140737488355328) :
  Calls Tryz.prog 105 #[.slice a len cap,.string ⟨#[10]⟩] w fun e w'=>e=.returned (.string (mk (joinW 10 xs)))/\Below w.heap.size w w':=by
 by_cases h0:len=0
 ·subst h0;obtain rfl:xs=[]:=List.eq_nil_of_length_eq_zero h.1.symm;refine(join_none a cap ⟨#[10]⟩ w).mono ?_;rintro e w' ⟨rfl,rfl⟩;exact⟨rfl,Below.refl _ _⟩
 ·obtain⟨b,off,rfl,hbb,hcc⟩:=h.2 (by omega)
  have e1:(xs.map mk).map (·.data.toList)=xs:=by
   rw[List.map_map]
   conv=>rhs;rw[<-List.map_id xs]
   exact List.map_congr_left (fun x _=>mk_data x)
  have hq:=join_some b off cap (xs.map mk) ⟨#[10]⟩ w ?_ hbb (by rw[List.length_map,<-h.1];exact hl) (by rw[List.length_map,<-h.1];exact hc) (by rw[e1];show (Lib.join xs [10]).length<=_;rw[join_lib];exact hb)
  ·rw[e1,List.length_map,<-h.1]at hq;have e2:Lib.join xs (⟨#[10]⟩:ByteArray).data.toList=joinW 10 xs:=join_lib 10 xs;rw[e2]at hq;exact hq
  ·intro j x hx;rw[List.getElem?_map]at hx
   have hj:j<xs.length:=by
    rcases Nat.lt_or_ge j xs.length with q | q
    ·exact q
    ·rw[List.getElem?_eq_none q]at hx;cases hx
   rw[List.getElem?_eq_getElem hj]at hx;cases hx;rw[hcc j (by rw[h.1];exact hj),List.getD_eq_getElem?_getD,List.getElem?_eq_getElem hj];rfl
def takV (f:Bool) (c:Int):List Ln ⊕ Int->Value
 | .inl ls=>.tuple #[.string (mk (txt f c ls)),.int .i64 (ls.length:Int),.agg #[.int .i64 0,.int .i64 0]]
 | .inr x=>.tuple #[.string ⟨#[]⟩,.int .i64 0,.agg #[.int .i64 9,.int .i64 x]]
set_option maxHeartbeats 4000000 in
theorem take_any (a:Option Addr) (len cap:Nat) (rs:List Rw) (col:Int) (f:Bool) (c:Int) (w:World) (h:RwAt w a len rs) (hl:len<=1048576) (hw:∀ r∈rs,r.1<=9223372036854775807/\r.2.1.length<=140737488355328)
  (hb:∀ ls,lo none (rws rs col)=.inl ls->(joinW 10 (trm ls)).length<=1000000000/\(fld (trm ls)).length<=1000000000) :
  Calls Tryz.prog 79 #[.slice a len cap,.int .i64 col,.agg #[.bool f,.int .i64 c]] w fun e w'=>e=.returned (takV f c (lo none (rws rs col)))/\Below w.heap.size w w':=by
 have HZ:Hid (RwAt w a len rs):=h;have HLN:Hid (∀ W,Below w.heap.size w W->Calls Tryz.prog 103 #[.slice a len cap,.int .i64 col] W fun e w'=>LinesRes (lo none (rws rs col)) W e w'):=fun W hb=>linesOf_any a len cap rs col W (h.later hb (Nat.le_refl _)) hl hw
 have HLL:Hid (∀ ls,lo none (rws rs col)=.inl ls->ls.length<=1048576):=fun ls q=>by
  have h1:=lo_len _ _ _ q;have h2:(rws rs col).length<=rs.length:=by unfold rws;exact(List.takeWhile_sublist _).length_le
  rw[h1];have:=h.1;omega
 have HBB:Hid (∀ ls,lo none (rws rs col)=.inl ls->(joinW 10 (trm ls)).length<=1000000000/\(fld (trm ls)).length<=1000000000):=hb;clear h hw hb;obtain⟨R,hR⟩:∃ R,lo none (rws rs col)=R:=⟨_,rfl⟩;rw[hR]at HLN HLL HBB |-;clear hR HZ;obtain⟨W2,hW2⟩:∃ W2,(w.alloc (.cells #[.bool f,.int .i64 c] 101)).alloc (.cells #[.int .i64 0,.int .i64 0] 33)=W2:=⟨_,rfl⟩;have hbW:Below w.heap.size w W2:=by rw[<-hW2];exact((Below.refl _ _).alloc (Nat.le_refl _) _).alloc (by simp) _
 have hWs:W2.heap.size=w.heap.size+2:=by rw[<-hW2];simp
 have hc0:W2.heap[w.heap.size]?=some (.cells #[.bool f,.int .i64 c] 101 (0,0)):=by
  rw[<-hW2];exact((Below.refl _ (w.alloc _)).alloc (Nat.le_refl _) _).block _ (by simp) |>.trans (heap_alloc_new w _)
 have hc1:W2.heap[w.heap.size+1]?=some (.cells #[.int .i64 0,.int .i64 0] 33 (0,0)):=by
  rw[<-hW2];have h:=heap_alloc_new (w.alloc (.cells #[.bool f,.int .i64 c] 101)) (.cells #[.int .i64 0,.int .i64 0] 33);rw[World.size_alloc]at h;exact h
 have HKK:Hid (∀ W,Below (w.heap.size+2) W2 W->Below w.heap.size w W/\W.cell? ⟨w.heap.size,0,none⟩=some (.bool f)/\W.cell? ⟨w.heap.size,1,none⟩=some (.int .i64 c)/\W.cell? ⟨w.heap.size+1,0,none⟩=some (.int .i64 0)/\W.cell? ⟨w.heap.size+1,1,none⟩=some (.int .i64 0)/\W.frozen? ⟨w.heap.size+1,0,none⟩=false/\W.frozen? ⟨w.heap.size+1,1,none⟩=false):=fun W hb=>by
  have hk:W.heap[w.heap.size]?=some (.cells #[.bool f,.int .i64 c] 101 (0,0)):=(hb.block _ (by omega)).trans hc0;have hk1:W.heap[w.heap.size+1]?=some (.cells #[.int .i64 0,.int .i64 0] 33 (0,0)):=(hb.block _ (by omega)).trans hc1;exact⟨hbW.trans (hb.mono (by omega)),by rw[Lib.cell_of_heap hk];rfl,by rw[Lib.cell_of_heap hk];rfl,by rw[Lib.cell_of_heap hk1];rfl,by rw[Lib.cell_of_heap hk1];rfl,Lib.frozen_of_heap hk1 0,Lib.frozen_of_heap hk1 1⟩
 have HLN2:=HLN.out W2 hbW;have HLN2:Hid (Calls Tryz.prog 103 #[.slice a len cap,.int .i64 col] W2 fun e w'=>LinesRes R W2 e w'):=HLN2;clear hbW hc0 hc1 HLN;go_enter Tryz.func79,Tryz.ntmps79;go_wp2_with fail;clear hW2;refine HLN2.out.mono ?_;clear HLN2;intro e w1 hres;rcases hres with ⟨ls,v,rfl,rfl,hown,hb1⟩ | ⟨x,rfl,rfl,hb1⟩
 ·have hls:=HLL.out ls rfl;obtain⟨hJ,hF⟩:=HBB.out ls rfl;obtain⟨a1,cap1,rfl,hcap,hat⟩:=strs_own hown;clear HLL HBB hown;have HT:Hid (StrsAt w1 a1 ls.length ls):=hat;clear hat;rw[hWs]at hb1;obtain⟨k0,k1,k2,k3,k4,k5,k6⟩:=HKK.out _ hb1;obtain⟨N,hN⟩:∃ N,N=ls.length:=⟨_,rfl⟩;obtain⟨n,hn⟩:∃ n,n=(trm ls).length:=⟨_,rfl⟩;have hnN:n<=N:=by rw[hn,hN];exact trm_le ls
  have HTT:Hid (trm ls=ls.take n):=by rw[hn];exact(trm_take ls).symm
  have HTX:Hid (takV f c (.inl ls)=.tuple #[.string (mk (body f (trm ls)++List.replicate (ed c n (N-n)) 10)),.int .i64 (N:Int),.agg #[.int .i64 0,.int .i64 0]]):=by rw[hn,hN];exact rfl
  rw[<-hN]at hls hcap HT |-
  have HWE:Hid (∀ W,Below w1.heap.size w1 W->Calls Tryz.prog 104 #[.slice a1 N cap1] W fun e w'=>e=.returned (.slice a1 n cap1)/\Below W.heap.size W w'):=fun W hb=>by
   rw[hn];exact withoutEnd_any a1 N cap1 ls W (HT.out.later hb (Nat.le_refl _)) (by omega) hcap
  have HJO:Hid (∀ W,Below w1.heap.size w1 W->Calls Tryz.prog 105 #[.slice a1 n cap1,.string ⟨#[10]⟩] W fun e w'=>e=.returned (.string (mk (joinW 10 (trm ls))))/\Below W.heap.size W w'):=fun W hb=>by
   have hq:=(HT.out.later hb (Nat.le_refl _)).take n hnN;rw[<-HTT.out]at hq;exact join_any a1 n cap1 (trm ls) W hq (by omega) (by omega) (by omega)
  have HFO:Hid (∀ W,Below w1.heap.size w1 W->Calls Tryz.prog 106 #[.slice a1 n cap1] W fun e w'=>e=.returned (.string (mk (fld (trm ls))))/\Below W.heap.size W w'):=fun W hb=>by
   have hq:=(HT.out.later hb (Nat.le_refl _)).take n hnN;rw[<-HTT.out]at hq;exact fold_any a1 n cap1 (trm ls) W hq (by omega) (by omega)
  have HBO:Hid (body f (trm ls)=if f=true then fld (trm ls)else joinW 10 (trm ls)):=rfl;have hsub:(N:Int)-(n:Int)=((N-n:Nat):Int):=by omega
  generalize joinW 10 (trm ls)=J at *;generalize fld (trm ls)=F at *;generalize body f (trm ls)=B at *;have hwr:IntKind.i64.wrap ((N:Int)-(n:Int))=((N-n:Nat):Int):=by rw[IntKind.wrap_i64];omega
  generalize hm:N-n=m at *;have hml:m<=1048576:=by omega
  have hel:ed c n m<=m+1:=by unfold ed;split<;>split<;>omega
  clear hN hn hm HTT HT;have hs1:=hb1.size;go_wp2_with fail;refine(HWE.out _ ((Below.refl _ _).alloc (Nat.le_refl _) _)).mono ?_;rintro e w3 ⟨rfl,hb3⟩;rw[World.size_alloc]at hb3;have B3:Below w1.heap.size w1 w3:=((Below.refl _ w1).alloc (Nat.le_refl _) _).trans (hb3.mono (by omega));have s3:=B3.size;clear hb3 HWE;go_wp2_with fail;refine(HJO.out _ B3).mono ?_;rintro e w4 ⟨rfl,hb4⟩;have B4:Below w1.heap.size w1 w4:=B3.trans (hb4.mono s3);have s4:=B4.size;clear hb4 HJO;obtain⟨j0,j1,j2,j3,j4,j5,j6⟩:=HKK.out _ (hb1.trans (B4.mono (by omega)));cases f
  ·have HBJ:Hid (B=J):=HBO.out;go_wp2_with fail;refine(ending_any c n m _ (by omega) (by omega)).mono ?_;rintro e w6 ⟨rfl,hb6⟩;obtain⟨E,HEE⟩:∃ E:Ln,Hid (E=List.replicate (ed c n m) 10):=⟨_,rfl⟩;have hEl:E.length<=m+1:=by rw[HEE.out,List.length_replicate];exact hel
   rw[<-HEE.out];have B6:Below w1.heap.size w1 w6:=B4.trans (hb6.mono s4);have s6:=B6.size;clear hb6;obtain⟨i0,i1,i2,i3,i4,i5,i6⟩:=HKK.out _ (hb1.trans (B6.mono (by omega)));have hcat: ¬ (9223372036854775807<(mk J).size+(mk E).size):=by rw[mk_size,mk_size];omega
   go_wp2_with fail;refine bodyPost_ret (v:=.tuple #[.string (mk J++mk E),.int .i64 (N:Int),.agg #[.int .i64 0,.int .i64 0]]) (by simp[results,Tryz.results79,go_sem,i3,i4]) rfl ⟨by rw[HTX.out,HBJ.out,mk_app,HEE.out],(i0.setCell (p:=⟨w.heap.size+1,0,none⟩) (Nat.le_succ _) _).setCell (p:=⟨w.heap.size+1,1,none⟩) (Nat.le_succ _) _⟩
  ·have HBJ:Hid (B=F):=HBO.out;go_wp2_with fail;refine(HFO.out _ B4).mono ?_;rintro e w5 ⟨rfl,hb5⟩;have B5:Below w1.heap.size w1 w5:=B4.trans (hb5.mono s4);have s5:=B5.size;clear hb5 HFO;obtain⟨q0,q1,q2,q3,q4,q5,q6⟩:=HKK.out _ (hb1.trans (B5.mono (by omega)));go_wp2_with fail;refine(ending_any c n m _ (by omega) (by omega)).mono ?_;rintro e w6 ⟨rfl,hb6⟩;obtain⟨E,HEE⟩:∃ E:Ln,Hid (E=List.replicate (ed c n m) 10):=⟨_,rfl⟩;have hEl:E.length<=m+1:=by rw[HEE.out,List.length_replicate];exact hel
   rw[<-HEE.out];have B6:Below w1.heap.size w1 w6:=B5.trans (hb6.mono s5);have s6:=B6.size;clear hb6;obtain⟨i0,i1,i2,i3,i4,i5,i6⟩:=HKK.out _ (hb1.trans (B6.mono (by omega)));have hcat: ¬ (9223372036854775807<(mk F).size+(mk E).size):=by rw[mk_size,mk_size];omega
   go_wp2_with fail;refine bodyPost_ret (v:=.tuple #[.string (mk F++mk E),.int .i64 (N:Int),.agg #[.int .i64 0,.int .i64 0]]) (by simp[results,Tryz.results79,go_sem,i3,i4]) rfl ⟨by rw[HTX.out,HBJ.out,mk_app,HEE.out],(i0.setCell (p:=⟨w.heap.size+1,0,none⟩) (Nat.le_succ _) _).setCell (p:=⟨w.heap.size+1,1,none⟩) (Nat.le_succ _) _⟩
 ·rw[hWs]at hb1;obtain⟨W5,hW5⟩:∃ W5,w1.alloc (.cells #[.int .i64 9,.int .i64 x] 33)=W5:=⟨_,rfl⟩;have hs1:=hb1.size;have hb5:Below (w.heap.size+2) W2 W5:=by rw[<-hW5];exact hb1.alloc (by omega) _
  obtain⟨k0,k1,k2,k3,k4,k5,k6⟩:=HKK.out _ hb5;have hc5:W5.heap[w1.heap.size]?=some (.cells #[.int .i64 9,.int .i64 x] 33 (0,0)):=by rw[<-hW5];exact heap_alloc_new w1 _
  have d0:W5.cell? ⟨w1.heap.size,0,none⟩=some (.int .i64 9):=by rw[Lib.cell_of_heap hc5];rfl
  have d1:W5.cell? ⟨w1.heap.size,1,none⟩=some (.int .i64 x):=by rw[Lib.cell_of_heap hc5];rfl
  clear hc5 hb5;go_wp2;go_region
  all_goals (
   go_wp2;refine bodyPost_ret (v:=.tuple #[.string ⟨#[]⟩,.int .i64 0,.agg #[.int .i64 9,.int .i64 x]]) (by simp[results,Tryz.results79,go_sem,k3,k4]) rfl ⟨rfl,(k0.drew.setCell (p:=⟨w.heap.size+1,0,none⟩) (Nat.le_succ _) _).setCell (p:=⟨w.heap.size+1,1,none⟩) (Nat.le_succ _) _⟩)
end Blk
namespace Tre
open Utf Rws Pln Flw
open Go.RowKit
open Blk (Rw RwAt z3 lo rws takV take_any joinW trm fld)
set_option maxHeartbeats 8000000
theorem trP_leaf {c:Nat} {w:World} (k:Int) (x a:Ln) (hk: -9223372036854775808<=k/\k<=9223372036854775807) (hx:x.length<=9223372036854775807) (ha:a.length<=9223372036854775807) (d:Nat):TrP c w (d+1) (.agg #[.int .i64 k,.string (mk x),.string (mk a),.slice none 0 0]) ⟨k,x,a,[]⟩ :=
 ⟨none,0,0,rfl,rfl,Nat.le_refl _,Nat.zero_le _,⟨hk.1,hk.2,hx,ha⟩,fun h=>absurd h (by decide)⟩
def blM (c z:Int) (p:Pp) (f:Bool) (ch:Int) (rs:List Rw):Tr × Int × Int:=match lo none (rws rs c)with
 | .inr x=>(tr0,9,x)
 | .inl ls=>if onB p 4=true then (tr0,12,z)else (⟨4,Blk.txt f ch ls,p.anc,[]⟩,stE c (rs.drop ls.length),stA (rs.drop ls.length))
theorem RowsIn.dropLe {w:World} {b off len cap:Nat} {rs:List Rw} (h:RowsIn w (some ⟨b,off,none⟩) len cap rs) (j:Nat) (hj:j<=len):RowsIn w (some ⟨b,off+j*3,none⟩) (len-j) (cap-j) (rs.drop j):=by
 by_cases e:j<len
 ·exact h.drop j e
 ·have e2:j=len:=by omega
  subst e2;refine⟨⟨by rw[List.length_drop,<-h.1.1],fun hp=>absurd hp (by omega)⟩,by omega,by have:=h.2.2.1;omega,fun r hr=>h.2.2.2 r (List.mem_of_mem_drop hr)⟩
theorem blockOf_any (c:Int) (x:Ln) (z:Int) (p:Pp) (f:Bool) (ch:Int) (a:Option Addr) (len cap:Nat) (rs:List Rw) (w:World) (h:RowsIn w a len cap rs) (hl:len<=1048576) (hw:∀ r∈rs,r.1<=9223372036854775807)
  (hb:∀ ls,lo none (rws rs c)=.inl ls->(joinW 10 (trm ls)).length<=1000000000/\(fld (trm ls)).length<=1000000000) (hx:∀ ls,lo none (rws rs c)=.inl ls->(Blk.txt f ch ls).length<=9223372036854775807) (hpa:p.anc.length<=9223372036854775807)
  (hA:(∃ b off,a=some ⟨b,off,none⟩)\/(a=none/\len=0/\cap=0)) :
  Calls Tryz.prog 59 #[rV c x z,pV p,.agg #[.bool f,.int .i64 ch],.slice a len cap] w fun e w'=>TfRes (blM c z p f ch rs) w e w':=by
 obtain⟨pa,pt⟩:=p;have N5:Hid (_/\_/\_/\_/\_/\_):=five_new w #[.int .i64 c,.string (mk x),.int .i64 z] #[.string (mk pa),.int .i64 pt] #[.bool f,.int .i64 ch] zT #[.int .i64 0,.int .i64 0] 45 49 101 24 33
 have HTK:Hid (∀ w0,Below w.heap.size w w0->Calls Tryz.prog 79 #[.slice a len cap,.int .i64 c,.agg #[.bool f,.int .i64 ch]] w0 fun e w'=>e=.returned (takV f ch (lo none (rws rs c)))/\Below w0.heap.size w0 w'):=fun w0 b =>
  take_any a len cap rs c f ch w0 (h.later b).1 hl (fun r hr=>⟨hw r hr,by have:=h.2.2.2 r hr;omega⟩) hb
 go_enter Tryz.func59,Tryz.ntmps59;go_wp2_with fail;change Calls _ _ _ (((((w.alloc (.cells #[.int .i64 c,.string (mk x),.int .i64 z] 45)).alloc (.cells #[.string (mk pa),.int .i64 pt] 49)).alloc (.cells #[.bool f,.int .i64 ch] 101)).alloc (.cells zT 24)).alloc (.cells #[.int .i64 0,.int .i64 0] 33)) _;generalize ((((w.alloc (.cells #[.int .i64 c,.string (mk x),.int .i64 z] 45)).alloc (.cells #[.string (mk pa),.int .i64 pt] 49)).alloc (.cells #[.bool f,.int .i64 ch] 101)).alloc (.cells zT 24)).alloc (.cells #[.int .i64 0,.int .i64 0] 33)=W at N5 |-;obtain⟨K4,hK4⟩:∃ K,K=w.heap.size+1+1+1+1:=⟨_,rfl⟩;obtain⟨K3,hK3⟩:∃ K,K=w.heap.size+1+1+1:=⟨_,rfl⟩;obtain⟨K2,hK2⟩:∃ K,K=w.heap.size+1+1:=⟨_,rfl⟩;obtain⟨K1,hK1⟩:∃ K,K=w.heap.size+1:=⟨_,rfl⟩;obtain⟨K0,hK0⟩:∃ K,K=w.heap.size:=⟨_,rfl⟩
 have HN:Hid (Below w.heap.size w W/\Bx W K0 #[.int .i64 c,.string (mk x),.int .i64 z] 45/\Bx W K1 #[.string (mk pa),.int .i64 pt] 49/\Bx W K3 zT 24/\Bx W K4 #[.int .i64 0,.int .i64 0] 33):=by
  rw[hK0,hK1,hK3,hK4];exact⟨N5.out.1,N5.out.2.2.2.1,N5.out.2.2.2.2.1,N5.out.2.1,N5.out.2.2.1⟩
 rw[<-hK4,<-hK3,<-hK2,<-hK1,<-hK0];have hwK:w.heap.size<=K0/\K0<K1/\K1<K2/\K2<K3/\K3<K4:=by omega
 have hK4W:K4<W.heap.size:=HN.out.2.2.2.2.lt;clear N5 hK0 hK1 hK2 hK3 hK4;refine(HTK.out W HN.out.1).mono ?_;rintro e w6 ⟨rfl,H6⟩;have HB6:Hid (Below W.heap.size W w6):=H6;have hs6:W.heap.size<=w6.heap.size:=H6.size
 have HBM:Hid (blM c z ⟨pa,pt⟩ f ch rs=match lo none (rws rs c)with
  | .inr x=>(tr0,9,x)
  | .inl ls=>if onB ⟨pa,pt⟩ 4=true then (tr0,12,z)else (⟨4,Blk.txt f ch ls,pa,[]⟩,stE c (rs.drop ls.length),stA (rs.drop ls.length))):=rfl
 have HLL:Hid (∀ ls,lo none (rws rs c)=.inl ls->ls.length<=len):=fun ls q=>by
  have h1:=Blk.lo_len _ _ _ q;have h2:(rws rs c).length<=rs.length:=by unfold rws;exact(List.takeWhile_sublist _).length_le
  rw[h1];have:=h.1.1;omega
 have HX:Hid (∀ ls,lo none (rws rs c)=.inl ls->(Blk.txt f ch ls).length<=9223372036854775807):=hx;have HRI:Hid (RowsIn w a len cap rs):=h;clear H6 HTK hx hb hw h;generalize lo none (rws rs c)=LO at *
 cases LO with
 | inr xx =>
  have HV:Hid (blM c z ⟨pa,pt⟩ f ch rs=(tr0,9,xx)):=HBM.out;clear HBM HLL HX HRI;unfold takV;have b7:=below_alloc w6 (.cells #[.int .i64 9,.int .i64 xx] 33);have n7:=Bx.new w6 #[.int .i64 9,.int .i64 xx] 33;go_upto_region 2 with fail
  generalize w6.alloc (.cells #[.int .i64 9,.int .i64 xx] 33)=w7 at b7 n7 |-;obtain⟨KF,hKF⟩:∃ K,K=w6.heap.size:=⟨_,rfl⟩;rw[<-hKF]at n7 |-;have G7:=HB6.out.trans (b7.mono hs6);have HS7:Hid (Below w.heap.size w w7/\Bx w7 K0 #[.int .i64 c,.string (mk x),.int .i64 z] 45/\Bx w7 K1 #[.string (mk pa),.int .i64 pt] 49/\Bx w7 K3 zT 24/\Bx w7 K4 #[.int .i64 0,.int .i64 0] 33/\Bx w7 KF #[.int .i64 9,.int .i64 xx] 33):=⟨HN.out.1.trans (G7.mono HN.out.1.size),HN.out.2.1.later G7,HN.out.2.2.1.later G7,HN.out.2.2.2.1.later G7,HN.out.2.2.2.2.later G7,n7⟩;have hwF:W.heap.size<=KF:=by omega
  clear b7 n7 G7 hKF HN HB6;have nz:K0≠K1/\K0≠K3/\K0≠K4/\K1≠K0/\K1≠K3/\K1≠K4/\K3≠K0/\K3≠K1/\K3≠K4/\K4≠K0/\K4≠K1/\K4≠K3:=by omega
  have ny:KF≠K0/\KF≠K1/\KF≠K3/\KF≠K4/\K0≠KF/\K1≠KF/\K3≠KF/\K4≠KF:=by omega
  obtain⟨o1,o2,o3,o4,o5,o6,o7,o8,o9,o10,o11,o12⟩:=nz;obtain⟨p1,p2,p3,p4,p5,p6,p7,p8⟩:=ny;obtain⟨i0,i1⟩:=HS7.out.2.2.2.2.2.c2;obtain⟨r0,r1,r2⟩:=HS7.out.2.1.c3;obtain⟨q0,q1⟩:=HS7.out.2.2.1.c2;have g0:=HS7.out.2.2.2.2.2.fz 0;have g1:=HS7.out.2.2.2.2.2.fz 1;obtain⟨d0,d1,d2,d3,d4,d5,z0,z1,z2,z3,z4,z5⟩:=c6_of HS7.out.2.2.2.1 HS7.out.2.2.2.2.1;have HF:Hid (_/\_/\_):=fill6_is HS7.out.2.2.2.1 HS7.out.2.2.2.2.1 (by omega) HS7.out.1 (by omega) (by omega) (.int .i64 0) (.string ⟨#[]⟩) (.string ⟨#[]⟩) (.slice none 0 0) (.int .i64 9) (.int .i64 xx);clear HS7;go_wp2_with fail;go_region
  all_goals
   go_wp2;change bodyPost _ _ _ _ _ (fill6 w7 K3 K4 (.int .i64 0) (.string ⟨#[]⟩) (.string ⟨#[]⟩) (.slice none 0 0) (.int .i64 9) (.int .i64 xx)).drew;generalize fill6 w7 K3 K4 (.int .i64 0) (.string ⟨#[]⟩) (.string ⟨#[]⟩) (.slice none 0 0) (.int .i64 9) (.int .i64 xx)=WF at HF |-;have j0:WF.drew.cell? ⟨K3,0,none⟩=_:=HF.out.2.1.cell 0;have j1:WF.drew.cell? ⟨K3,1,none⟩=_:=HF.out.2.1.cell 1;have j2:WF.drew.cell? ⟨K3,2,none⟩=_:=HF.out.2.1.cell 2;have j3:WF.drew.cell? ⟨K3,3,none⟩=_:=HF.out.2.1.cell 3;have j4:WF.drew.cell? ⟨K4,0,none⟩=_:=HF.out.2.2.cell 0;have j5:WF.drew.cell? ⟨K4,1,none⟩=_:=HF.out.2.2.cell 1;refine bodyPost_ret (v:=.tuple #[.agg #[.int .i64 0,.string ⟨#[]⟩,.string ⟨#[]⟩,.slice none 0 0],.agg #[.int .i64 9,.int .i64 xx]]) (by simp[results,Tryz.results59,go_sem,j0,j1,j2,j3,j4,j5]) rfl ?_;exact⟨_,by rw[HV.out],by rw[HV.out];exact trP0,HF.out.1.drew⟩
 | inl ls =>
  unfold takV;have hcl:ls.length<=len:=HLL.out ls rfl;have htx:(Blk.txt f ch ls).length<=9223372036854775807:=HX.out ls rfl;have hbm:blM c z ⟨pa,pt⟩ f ch rs=if onB ⟨pa,pt⟩ 4=true then (tr0,12,z)else (⟨4,Blk.txt f ch ls,pa,[]⟩,stE c (rs.drop ls.length),stA (rs.drop ls.length)):=HBM.out
  clear HBM HLL HX;have b7:=below_alloc w6 (.cells #[.int .i64 0,.int .i64 0] 33);have n7:=Bx.new w6 #[.int .i64 0,.int .i64 0] 33;go_upto_region 2 with fail
  generalize w6.alloc (.cells #[.int .i64 0,.int .i64 0] 33)=w7 at b7 n7 |-;obtain⟨KF,hKF⟩:∃ K,K=w6.heap.size:=⟨_,rfl⟩;rw[<-hKF]at n7 |-;have G7:=HB6.out.trans (b7.mono hs6);have HS7:Hid (Below w.heap.size w w7/\Bx w7 K0 #[.int .i64 c,.string (mk x),.int .i64 z] 45/\Bx w7 K1 #[.string (mk pa),.int .i64 pt] 49/\Bx w7 K3 zT 24/\Bx w7 K4 #[.int .i64 0,.int .i64 0] 33/\Bx w7 KF #[.int .i64 0,.int .i64 0] 33):=⟨HN.out.1.trans (G7.mono HN.out.1.size),HN.out.2.1.later G7,HN.out.2.2.1.later G7,HN.out.2.2.2.1.later G7,HN.out.2.2.2.2.later G7,n7⟩;have hwF:W.heap.size<=KF:=by omega
  clear b7 n7 G7 hKF HN HB6;have nz:K0≠K1/\K0≠K3/\K0≠K4/\K1≠K0/\K1≠K3/\K1≠K4/\K3≠K0/\K3≠K1/\K3≠K4/\K4≠K0/\K4≠K1/\K4≠K3:=by omega
  have ny:KF≠K0/\KF≠K1/\KF≠K3/\KF≠K4/\K0≠KF/\K1≠KF/\K3≠KF/\K4≠KF:=by omega
  obtain⟨o1,o2,o3,o4,o5,o6,o7,o8,o9,o10,o11,o12⟩:=nz;obtain⟨p1,p2,p3,p4,p5,p6,p7,p8⟩:=ny;generalize HTX:Blk.txt f ch ls=tt at *;clear HTX;generalize ls.length=n at *;cases ho:onB ⟨pa,pt⟩ 4
  ·skip;have HON:Hid (∀ w0,Calls Tryz.prog 40 #[.agg #[.string (mk pa),.int .i64 pt],.agg #[.int .i64 4,.string (mk tt),.string ⟨#[]⟩,.slice none 0 0],.agg #[.int .i64 c,.string (mk x),.int .i64 z]] w0 fun e w'=>e=.returned (.tuple #[.agg #[.int .i64 4,.string (mk tt),.string (mk pa),.slice none 0 0],.agg #[.int .i64 0,.int .i64 0]])/\Below w0.heap.size w0 w'):=fun w0=>on_yes ⟨pa,pt⟩ 4 tt [] none 0 0 c x z w0 ho
   rw[ho]at hbm;have HV:Hid (blM c z ⟨pa,pt⟩ f ch rs=(⟨4,tt,pa,[]⟩,stE c (rs.drop n),stA (rs.drop n))):=hbm;clear hbm ho;obtain⟨i0,i1⟩:=HS7.out.2.2.2.2.2.c2;obtain⟨r0,r1,r2⟩:=HS7.out.2.1.c3;obtain⟨q0,q1⟩:=HS7.out.2.2.1.c2;have g0:=HS7.out.2.2.2.2.2.fz 0;have g1:=HS7.out.2.2.2.2.2.fz 1;obtain⟨d0,d1,d2,d3,d4,d5,z0,z1,z2,z3,z4,z5⟩:=c6_of HS7.out.2.2.2.1 HS7.out.2.2.2.2.1;go_wp2_with fail;refine(HON.out w7).mono ?_;rintro e w8 ⟨rfl,H8⟩;have HS8:Hid (Below w.heap.size w w8/\Bx w8 K0 #[.int .i64 c,.string (mk x),.int .i64 z] 45/\Bx w8 K1 #[.string (mk pa),.int .i64 pt] 49/\Bx w8 K3 zT 24/\Bx w8 K4 #[.int .i64 0,.int .i64 0] 33/\Bx w8 KF #[.int .i64 0,.int .i64 0] 33):=⟨HS7.out.1.trans (H8.mono HS7.out.1.size),HS7.out.2.1.later H8,HS7.out.2.2.1.later H8,HS7.out.2.2.2.1.later H8,HS7.out.2.2.2.2.1.later H8,HS7.out.2.2.2.2.2.later H8⟩;clear i0 i1 r0 r1 r2 q0 q1 g0 g1 d0 d1 d2 d3 d4 d5 z0 z1 z2 z3 z4 z5;have hK8:KF<w8.heap.size:=HS8.out.2.2.2.2.2.lt;clear HS7 H8 HON;obtain⟨i0,i1⟩:=HS8.out.2.2.2.2.2.c2;obtain⟨r0,r1,r2⟩:=HS8.out.2.1.c3;obtain⟨q0,q1⟩:=HS8.out.2.2.1.c2;have g0:=HS8.out.2.2.2.2.2.fz 0;have g1:=HS8.out.2.2.2.2.2.fz 1;obtain⟨d0,d1,d2,d3,d4,d5,z0,z1,z2,z3,z4,z5⟩:=c6_of HS8.out.2.2.2.1 HS8.out.2.2.2.2.1
   have N9:Hid (∀ w9,w9=((w8.setCell ⟨KF,0,none⟩ (.int .i64 0)).setCell ⟨KF,1,none⟩ (.int .i64 0)).alloc (.cells #[.int .i64 4,.string (mk tt),.string (mk pa),.slice none 0 0] 24)->(Below w.heap.size w w9/\Bx w9 K0 #[.int .i64 c,.string (mk x),.int .i64 z] 45/\Bx w9 K1 #[.string (mk pa),.int .i64 pt] 49/\Bx w9 K3 zT 24/\Bx w9 K4 #[.int .i64 0,.int .i64 0] 33/\Bx w9 KF #[.int .i64 0,.int .i64 0] 33)/\Bx w9 w8.heap.size #[.int .i64 4,.string (mk tt),.string (mk pa),.slice none 0 0] 24):=fun w9 e=>by
    subst e;have b:=below_alloc ((w8.setCell ⟨KF,0,none⟩ (.int .i64 0)).setCell ⟨KF,1,none⟩ (.int .i64 0)) (.cells #[.int .i64 4,.string (mk tt),.string (mk pa),.slice none 0 0] 24);have sz:((w8.setCell ⟨KF,0,none⟩ (.int .i64 0)).setCell ⟨KF,1,none⟩ (.int .i64 0)).heap.size=w8.heap.size:=by rw[World.size_setCell,World.size_setCell]
    have nn:=Bx.new ((w8.setCell ⟨KF,0,none⟩ (.int .i64 0)).setCell ⟨KF,1,none⟩ (.int .i64 0)) #[.int .i64 4,.string (mk tt),.string (mk pa),.slice none 0 0] 24;rw[sz]at nn;have bb:=(HS8.out.1.setCell (p:=⟨KF,0,none⟩) (by show _<=KF;omega) (.int .i64 0)).setCell (p:=⟨KF,1,none⟩) (by show _<=KF;omega) (.int .i64 0);exact⟨⟨bb.trans (b.mono bb.size),((HS8.out.2.1.other (by omega) _ _).other (by omega) _ _).later b,((HS8.out.2.2.1.other (by omega) _ _).other (by omega) _ _).later b,((HS8.out.2.2.2.1.other (by omega) _ _).other (by omega) _ _).later b,((HS8.out.2.2.2.2.1.other (by omega) _ _).other (by omega) _ _).later b,((HS8.out.2.2.2.2.2.set 0 _).set 1 _).later b⟩,nn⟩
   go_upto_region 5 with fail
   have N10:=N9.out _ rfl;clear N9;generalize ((w8.setCell ⟨KF,0,none⟩ (.int .i64 0)).setCell ⟨KF,1,none⟩ (.int .i64 0)).alloc (.cells #[.int .i64 4,.string (mk tt),.string (mk pa),.slice none 0 0] 24)=w9 at N10 |-;obtain⟨KT,hKT⟩:∃ K,K=w8.heap.size:=⟨_,rfl⟩;rw[<-hKT]at N10 |-;have HS9:Hid (Below w.heap.size w w9/\Bx w9 K0 #[.int .i64 c,.string (mk x),.int .i64 z] 45/\Bx w9 K1 #[.string (mk pa),.int .i64 pt] 49/\Bx w9 K3 zT 24/\Bx w9 K4 #[.int .i64 0,.int .i64 0] 33/\Bx w9 KF #[.int .i64 0,.int .i64 0] 33):=N10.1;have HT9:Hid (Bx w9 KT #[.int .i64 4,.string (mk tt),.string (mk pa),.slice none 0 0] 24):=N10.2;have nt:KT≠KF/\KT≠K0/\KT≠K1/\KT≠K3/\KT≠K4/\KF≠KT/\K0≠KT/\K3≠KT/\K4≠KT:=by omega
   obtain⟨n1,n2,n3,n4,n5,n6,n7,n8,n9⟩:=nt;clear i0 i1 r0 r1 r2 q0 q1 g0 g1 d0 d1 d2 d3 d4 d5 z0 z1 z2 z3 z4 z5;clear HS8 N10 hKT hK8;obtain⟨i0,i1⟩:=HS9.out.2.2.2.2.2.c2;obtain⟨r0,r1,r2⟩:=HS9.out.2.1.c3;obtain⟨q0,q1⟩:=HS9.out.2.2.1.c2;have g0:=HS9.out.2.2.2.2.2.fz 0;have g1:=HS9.out.2.2.2.2.2.fz 1;obtain⟨d0,d1,d2,d3,d4,d5,z0,z1,z2,z3,z4,z5⟩:=c6_of HS9.out.2.2.2.1 HS9.out.2.2.2.2.1;obtain⟨t0,t1,t2,t3⟩:=HT9.out.c4;have HR9:Hid (RowsIn w9 a len cap rs):=HRI.out.later HS9.out.1;have hlc:len<=cap:=HRI.out.2.1;have hcm:cap<=9223372036854775807:=HRI.out.2.2.1;clear HRI;rcases hA with ⟨b,off,rfl⟩ | ⟨rfl,rfl,rfl⟩
   case' inr =>
    obtain rfl:n=0:=by omega
    have HSY:Hid (Calls Tryz.prog 80 #[.agg #[.int .i64 c,.string (mk x),.int .i64 z],.slice (none) 0 0] w9.drew fun e w'=>e=.returned (.agg #[.int .i64 (stE c (rs.drop 0)),.int .i64 (stA (rs.drop 0))])/\w'.cell? ⟨KF,0,none⟩=some (.int .i64 0)/\w'.cell? ⟨KF,1,none⟩=some (.int .i64 0)/\w'.frozen? ⟨KF,0,none⟩=false/\w'.frozen? ⟨KF,1,none⟩=false/\Hid ((Below w.heap.size w w'/\Bx w' K0 #[.int .i64 c,.string (mk x),.int .i64 z] 45/\Bx w' K1 #[.string (mk pa),.int .i64 pt] 49/\Bx w' K3 zT 24/\Bx w' K4 #[.int .i64 0,.int .i64 0] 33/\Bx w' KF #[.int .i64 0,.int .i64 0] 33)/\Bx w' KT #[.int .i64 4,.string (mk tt),.string (mk pa),.slice none 0 0] 24)):=by
     have bd:Below w9.heap.size w9 w9.drew:=(Below.refl _ _).drew
     have hri:RowsIn w9 (none) 0 0 (rs.drop 0):=by
      have h3:=HR9.out;have e0:rs.drop 0=[]:=List.drop_eq_nil_of_le (by have:=h3.1.1;omega);rw[e0];exact⟨⟨rfl,fun hp=>absurd hp (by decide)⟩,Nat.le_refl _,Nat.zero_le _,fun r hr=>by cases hr⟩
     refine(stray_any c x z _ 0 0 (rs.drop 0) w9.drew (hri.later bd)).mono ?_;rintro e w' ⟨rfl,h'⟩;have bx:=bd.trans (h'.mono bd.size);have k5:=HS9.out.2.2.2.2.2.later bx;exact⟨rfl,k5.cell 0,k5.cell 1,k5.fz 0,k5.fz 1,⟨HS9.out.1.trans (bx.mono HS9.out.1.size),HS9.out.2.1.later bx,HS9.out.2.2.1.later bx,HS9.out.2.2.2.1.later bx,HS9.out.2.2.2.2.1.later bx,k5⟩,HT9.out.later bx⟩
    generalize stE c (rs.drop 0)=sE at *;generalize stA (rs.drop 0)=sA at *;clear HR9
   case' inl =>
    by_cases hcn:cap=n
    case' pos =>
     have hln:len=n:=by omega
     have HSY:Hid (Calls Tryz.prog 80 #[.agg #[.int .i64 c,.string (mk x),.int .i64 z],.slice (some ⟨b,off,none⟩) 0 0] w9.drew fun e w'=>e=.returned (.agg #[.int .i64 (stE c (rs.drop n)),.int .i64 (stA (rs.drop n))])/\w'.cell? ⟨KF,0,none⟩=some (.int .i64 0)/\w'.cell? ⟨KF,1,none⟩=some (.int .i64 0)/\w'.frozen? ⟨KF,0,none⟩=false/\w'.frozen? ⟨KF,1,none⟩=false/\Hid ((Below w.heap.size w w'/\Bx w' K0 #[.int .i64 c,.string (mk x),.int .i64 z] 45/\Bx w' K1 #[.string (mk pa),.int .i64 pt] 49/\Bx w' K3 zT 24/\Bx w' K4 #[.int .i64 0,.int .i64 0] 33/\Bx w' KF #[.int .i64 0,.int .i64 0] 33)/\Bx w' KT #[.int .i64 4,.string (mk tt),.string (mk pa),.slice none 0 0] 24)):=by
      have bd:Below w9.heap.size w9 w9.drew:=(Below.refl _ _).drew
      have hri:RowsIn w9 (some ⟨b,off,none⟩) 0 0 (rs.drop n):=by
       have h3:=HR9.out;have e0:rs.drop n=[]:=List.drop_eq_nil_of_le (by have:=h3.1.1;omega);rw[e0];exact⟨⟨rfl,fun hp=>absurd hp (by decide)⟩,Nat.le_refl _,Nat.zero_le _,fun r hr=>by cases hr⟩
      refine(stray_any c x z _ 0 0 (rs.drop n) w9.drew (hri.later bd)).mono ?_;rintro e w' ⟨rfl,h'⟩;have bx:=bd.trans (h'.mono bd.size);have k5:=HS9.out.2.2.2.2.2.later bx;exact⟨rfl,k5.cell 0,k5.cell 1,k5.fz 0,k5.fz 1,⟨HS9.out.1.trans (bx.mono HS9.out.1.size),HS9.out.2.1.later bx,HS9.out.2.2.1.later bx,HS9.out.2.2.2.1.later bx,HS9.out.2.2.2.2.1.later bx,k5⟩,HT9.out.later bx⟩
     generalize stE c (rs.drop n)=sE at *;generalize stA (rs.drop n)=sA at *;clear HR9;subst hln;subst hcn
    case' neg =>
     have HSY:Hid (Calls Tryz.prog 80 #[.agg #[.int .i64 c,.string (mk x),.int .i64 z],.slice (some ⟨b,off+n*3,none⟩) (len-n) (cap-n)] w9.drew fun e w'=>e=.returned (.agg #[.int .i64 (stE c (rs.drop n)),.int .i64 (stA (rs.drop n))])/\w'.cell? ⟨KF,0,none⟩=some (.int .i64 0)/\w'.cell? ⟨KF,1,none⟩=some (.int .i64 0)/\w'.frozen? ⟨KF,0,none⟩=false/\w'.frozen? ⟨KF,1,none⟩=false/\Hid ((Below w.heap.size w w'/\Bx w' K0 #[.int .i64 c,.string (mk x),.int .i64 z] 45/\Bx w' K1 #[.string (mk pa),.int .i64 pt] 49/\Bx w' K3 zT 24/\Bx w' K4 #[.int .i64 0,.int .i64 0] 33/\Bx w' KF #[.int .i64 0,.int .i64 0] 33)/\Bx w' KT #[.int .i64 4,.string (mk tt),.string (mk pa),.slice none 0 0] 24)):=by
      have bd:Below w9.heap.size w9 w9.drew:=(Below.refl _ _).drew
      have hri:RowsIn w9 (some ⟨b,off+n*3,none⟩) (len-n) (cap-n) (rs.drop n):=by
       exact HR9.out.dropLe n hcl
      refine(stray_any c x z _ (len-n) (cap-n) (rs.drop n) w9.drew (hri.later bd)).mono ?_;rintro e w' ⟨rfl,h'⟩;have bx:=bd.trans (h'.mono bd.size);have k5:=HS9.out.2.2.2.2.2.later bx;exact⟨rfl,k5.cell 0,k5.cell 1,k5.fz 0,k5.fz 1,⟨HS9.out.1.trans (bx.mono HS9.out.1.size),HS9.out.2.1.later bx,HS9.out.2.2.1.later bx,HS9.out.2.2.2.1.later bx,HS9.out.2.2.2.2.1.later bx,k5⟩,HT9.out.later bx⟩
     generalize stE c (rs.drop n)=sE at *;generalize stA (rs.drop n)=sA at *
   all_goals
    go_wp2_with fail;go_region_with (go_at_call 80;refine HSY.out.mono ?_;rintro e w10 ⟨rfl,f0,f1,f2,f3,H10⟩)
    all_goals
     clear i0 i1 t0 t1 t2 t3 r0 r1 r2 q0 q1 g0 g1 d0 d1 d2 d3 d4 d5 z0 z1 z2 z3 z4 z5 f0 f1 f2 f3;have HS11:Hid (Below w.heap.size w ((w10.setCell ⟨KF,0,none⟩ (.int .i64 sE)).setCell ⟨KF,1,none⟩ (.int .i64 sA))/\Bx ((w10.setCell ⟨KF,0,none⟩ (.int .i64 sE)).setCell ⟨KF,1,none⟩ (.int .i64 sA)) K0 #[.int .i64 c,.string (mk x),.int .i64 z] 45/\Bx ((w10.setCell ⟨KF,0,none⟩ (.int .i64 sE)).setCell ⟨KF,1,none⟩ (.int .i64 sA)) K1 #[.string (mk pa),.int .i64 pt] 49/\Bx ((w10.setCell ⟨KF,0,none⟩ (.int .i64 sE)).setCell ⟨KF,1,none⟩ (.int .i64 sA)) K3 zT 24/\Bx ((w10.setCell ⟨KF,0,none⟩ (.int .i64 sE)).setCell ⟨KF,1,none⟩ (.int .i64 sA)) K4 #[.int .i64 0,.int .i64 0] 33/\Bx ((w10.setCell ⟨KF,0,none⟩ (.int .i64 sE)).setCell ⟨KF,1,none⟩ (.int .i64 sA)) KF #[.int .i64 sE,.int .i64 sA] 33):=⟨(H10.out.1.1.setCell (by show _<=KF;omega) _).setCell (by show _<=KF;omega) _,(H10.out.1.2.1.other (by omega) _ _).other (by omega) _ _,(H10.out.1.2.2.1.other (by omega) _ _).other (by omega) _ _,(H10.out.1.2.2.2.1.other (by omega) _ _).other (by omega) _ _,(H10.out.1.2.2.2.2.1.other (by omega) _ _).other (by omega) _ _,(H10.out.1.2.2.2.2.2.set 0 _).set 1 _⟩;have HTT:Hid (Bx ((w10.setCell ⟨KF,0,none⟩ (.int .i64 sE)).setCell ⟨KF,1,none⟩ (.int .i64 sA)) KT #[.int .i64 4,.string (mk tt),.string (mk pa),.slice none 0 0] 24):=(H10.out.2.other (by omega) _ _).other (by omega) _ _;go_upto_region 7 with fail
     generalize (w10.setCell ⟨KF,0,none⟩ (.int .i64 sE)).setCell ⟨KF,1,none⟩ (.int .i64 sA)=w11 at HS11 HTT |-;clear HS9 HT9 H10 HSY;obtain⟨i0,i1⟩:=HS11.out.2.2.2.2.2.c2;obtain⟨t0,t1,t2,t3⟩:=HTT.out.c4;obtain⟨d0,d1,d2,d3,d4,d5,z0,z1,z2,z3,z4,z5⟩:=c6_of HS11.out.2.2.2.1 HS11.out.2.2.2.2.1;have HF:Hid (_/\_/\_):=fill6_is HS11.out.2.2.2.1 HS11.out.2.2.2.2.1 (by omega) HS11.out.1 (by omega) (by omega) (.int .i64 4) (.string (mk tt)) (.string (mk pa)) (.slice none 0 0) (.int .i64 sE) (.int .i64 sA);clear HS11;go_wp2_with fail;go_region
     all_goals
      go_wp2;change bodyPost _ _ _ _ _ (fill6 w11 K3 K4 (.int .i64 4) (.string (mk tt)) (.string (mk pa)) (.slice none 0 0) (.int .i64 sE) (.int .i64 sA)).drew;generalize fill6 w11 K3 K4 (.int .i64 4) (.string (mk tt)) (.string (mk pa)) (.slice none 0 0) (.int .i64 sE) (.int .i64 sA)=WF at HF |-;have j0:WF.drew.cell? ⟨K3,0,none⟩=_:=HF.out.2.1.cell 0;have j1:WF.drew.cell? ⟨K3,1,none⟩=_:=HF.out.2.1.cell 1;have j2:WF.drew.cell? ⟨K3,2,none⟩=_:=HF.out.2.1.cell 2;have j3:WF.drew.cell? ⟨K3,3,none⟩=_:=HF.out.2.1.cell 3;have j4:WF.drew.cell? ⟨K4,0,none⟩=_:=HF.out.2.2.cell 0;have j5:WF.drew.cell? ⟨K4,1,none⟩=_:=HF.out.2.2.cell 1;refine bodyPost_ret (v:=.tuple #[.agg #[.int .i64 4,.string (mk tt),.string (mk pa),.slice none 0 0],.agg #[.int .i64 sE,.int .i64 sA]]) (by simp[results,Tryz.results59,go_sem,j0,j1,j2,j3,j4,j5]) rfl ?_;exact⟨_,by rw[HV.out],by rw[HV.out];exact trP_leaf 4 tt pa (by decide) htx hpa 64,HF.out.1.drew⟩
  ·skip;have HON:Hid (∀ w0,Calls Tryz.prog 40 #[.agg #[.string (mk pa),.int .i64 pt],.agg #[.int .i64 4,.string (mk tt),.string ⟨#[]⟩,.slice none 0 0],.agg #[.int .i64 c,.string (mk x),.int .i64 z]] w0 fun e w'=>e=.returned (.tuple #[.agg #[.int .i64 0,.string ⟨#[]⟩,.string ⟨#[]⟩,.slice none 0 0],.agg #[.int .i64 12,.int .i64 z]])/\Below w0.heap.size w0 w'):=fun w0=>on_no ⟨pa,pt⟩ 4 tt [] none 0 0 c x z w0 ho
   rw[ho]at hbm;have HV:Hid (blM c z ⟨pa,pt⟩ f ch rs=(tr0,12,z)):=hbm;clear hbm ho HRI;obtain⟨i0,i1⟩:=HS7.out.2.2.2.2.2.c2;obtain⟨r0,r1,r2⟩:=HS7.out.2.1.c3;obtain⟨q0,q1⟩:=HS7.out.2.2.1.c2;have g0:=HS7.out.2.2.2.2.2.fz 0;have g1:=HS7.out.2.2.2.2.2.fz 1;obtain⟨d0,d1,d2,d3,d4,d5,z0,z1,z2,z3,z4,z5⟩:=c6_of HS7.out.2.2.2.1 HS7.out.2.2.2.2.1;go_wp2_with fail;refine(HON.out w7).mono ?_;rintro e w8 ⟨rfl,H8⟩;have HS8:Hid (Below w.heap.size w w8/\Bx w8 K0 #[.int .i64 c,.string (mk x),.int .i64 z] 45/\Bx w8 K1 #[.string (mk pa),.int .i64 pt] 49/\Bx w8 K3 zT 24/\Bx w8 K4 #[.int .i64 0,.int .i64 0] 33/\Bx w8 KF #[.int .i64 0,.int .i64 0] 33):=⟨HS7.out.1.trans (H8.mono HS7.out.1.size),HS7.out.2.1.later H8,HS7.out.2.2.1.later H8,HS7.out.2.2.2.1.later H8,HS7.out.2.2.2.2.1.later H8,HS7.out.2.2.2.2.2.later H8⟩;clear i0 i1 r0 r1 r2 q0 q1 g0 g1 d0 d1 d2 d3 d4 d5 z0 z1 z2 z3 z4 z5;have hK8:KF<w8.heap.size:=HS8.out.2.2.2.2.2.lt;clear HS7 H8 HON;obtain⟨i0,i1⟩:=HS8.out.2.2.2.2.2.c2;obtain⟨r0,r1,r2⟩:=HS8.out.2.1.c3;obtain⟨q0,q1⟩:=HS8.out.2.2.1.c2;have g0:=HS8.out.2.2.2.2.2.fz 0;have g1:=HS8.out.2.2.2.2.2.fz 1;obtain⟨d0,d1,d2,d3,d4,d5,z0,z1,z2,z3,z4,z5⟩:=c6_of HS8.out.2.2.2.1 HS8.out.2.2.2.2.1
   have N9:Hid (∀ w9,w9=((w8.setCell ⟨KF,0,none⟩ (.int .i64 12)).setCell ⟨KF,1,none⟩ (.int .i64 z)).alloc (.cells #[.int .i64 0,.string ⟨#[]⟩,.string ⟨#[]⟩,.slice none 0 0] 24)->(Below w.heap.size w w9/\Bx w9 K0 #[.int .i64 c,.string (mk x),.int .i64 z] 45/\Bx w9 K1 #[.string (mk pa),.int .i64 pt] 49/\Bx w9 K3 zT 24/\Bx w9 K4 #[.int .i64 0,.int .i64 0] 33/\Bx w9 KF #[.int .i64 12,.int .i64 z] 33)/\Bx w9 w8.heap.size #[.int .i64 0,.string ⟨#[]⟩,.string ⟨#[]⟩,.slice none 0 0] 24):=fun w9 e=>by
    subst e;have b:=below_alloc ((w8.setCell ⟨KF,0,none⟩ (.int .i64 12)).setCell ⟨KF,1,none⟩ (.int .i64 z)) (.cells #[.int .i64 0,.string ⟨#[]⟩,.string ⟨#[]⟩,.slice none 0 0] 24);have sz:((w8.setCell ⟨KF,0,none⟩ (.int .i64 12)).setCell ⟨KF,1,none⟩ (.int .i64 z)).heap.size=w8.heap.size:=by rw[World.size_setCell,World.size_setCell]
    have nn:=Bx.new ((w8.setCell ⟨KF,0,none⟩ (.int .i64 12)).setCell ⟨KF,1,none⟩ (.int .i64 z)) #[.int .i64 0,.string ⟨#[]⟩,.string ⟨#[]⟩,.slice none 0 0] 24;rw[sz]at nn;have bb:=(HS8.out.1.setCell (p:=⟨KF,0,none⟩) (by show _<=KF;omega) (.int .i64 12)).setCell (p:=⟨KF,1,none⟩) (by show _<=KF;omega) (.int .i64 z);exact⟨⟨bb.trans (b.mono bb.size),((HS8.out.2.1.other (by omega) _ _).other (by omega) _ _).later b,((HS8.out.2.2.1.other (by omega) _ _).other (by omega) _ _).later b,((HS8.out.2.2.2.1.other (by omega) _ _).other (by omega) _ _).later b,((HS8.out.2.2.2.2.1.other (by omega) _ _).other (by omega) _ _).later b,((HS8.out.2.2.2.2.2.set 0 _).set 1 _).later b⟩,nn⟩
   go_upto_region 5 with fail
   have N10:=N9.out _ rfl;clear N9;generalize ((w8.setCell ⟨KF,0,none⟩ (.int .i64 12)).setCell ⟨KF,1,none⟩ (.int .i64 z)).alloc (.cells #[.int .i64 0,.string ⟨#[]⟩,.string ⟨#[]⟩,.slice none 0 0] 24)=w9 at N10 |-;obtain⟨KT,hKT⟩:∃ K,K=w8.heap.size:=⟨_,rfl⟩;rw[<-hKT]at N10 |-;have HS9:Hid (Below w.heap.size w w9/\Bx w9 K0 #[.int .i64 c,.string (mk x),.int .i64 z] 45/\Bx w9 K1 #[.string (mk pa),.int .i64 pt] 49/\Bx w9 K3 zT 24/\Bx w9 K4 #[.int .i64 0,.int .i64 0] 33/\Bx w9 KF #[.int .i64 12,.int .i64 z] 33):=N10.1;have HT9:Hid (Bx w9 KT #[.int .i64 0,.string ⟨#[]⟩,.string ⟨#[]⟩,.slice none 0 0] 24):=N10.2;have nt:KT≠KF/\KT≠K0/\KT≠K1/\KT≠K3/\KT≠K4/\KF≠KT/\K0≠KT/\K3≠KT/\K4≠KT:=by omega
   obtain⟨n1,n2,n3,n4,n5,n6,n7,n8,n9⟩:=nt;clear i0 i1 r0 r1 r2 q0 q1 g0 g1 d0 d1 d2 d3 d4 d5 z0 z1 z2 z3 z4 z5;clear HS8 N10 hKT hK8;obtain⟨i0,i1⟩:=HS9.out.2.2.2.2.2.c2;obtain⟨r0,r1,r2⟩:=HS9.out.2.1.c3;obtain⟨q0,q1⟩:=HS9.out.2.2.1.c2;have g0:=HS9.out.2.2.2.2.2.fz 0;have g1:=HS9.out.2.2.2.2.2.fz 1;obtain⟨d0,d1,d2,d3,d4,d5,z0,z1,z2,z3,z4,z5⟩:=c6_of HS9.out.2.2.2.1 HS9.out.2.2.2.2.1;obtain⟨t0,t1,t2,t3⟩:=HT9.out.c4;go_upto_region 7 with fail
   have HF:Hid (_/\_/\_):=fill6_is HS9.out.2.2.2.1 HS9.out.2.2.2.2.1 (by omega) HS9.out.1 (by omega) (by omega) (.int .i64 0) (.string ⟨#[]⟩) (.string ⟨#[]⟩) (.slice none 0 0) (.int .i64 12) (.int .i64 z);clear HS9;go_wp2_with fail;go_region
   all_goals
    go_wp2;change bodyPost _ _ _ _ _ (fill6 w9 K3 K4 (.int .i64 0) (.string ⟨#[]⟩) (.string ⟨#[]⟩) (.slice none 0 0) (.int .i64 12) (.int .i64 z)).drew;generalize fill6 w9 K3 K4 (.int .i64 0) (.string ⟨#[]⟩) (.string ⟨#[]⟩) (.slice none 0 0) (.int .i64 12) (.int .i64 z)=WF at HF |-;have j0:WF.drew.cell? ⟨K3,0,none⟩=_:=HF.out.2.1.cell 0;have j1:WF.drew.cell? ⟨K3,1,none⟩=_:=HF.out.2.1.cell 1;have j2:WF.drew.cell? ⟨K3,2,none⟩=_:=HF.out.2.1.cell 2;have j3:WF.drew.cell? ⟨K3,3,none⟩=_:=HF.out.2.1.cell 3;have j4:WF.drew.cell? ⟨K4,0,none⟩=_:=HF.out.2.2.cell 0;have j5:WF.drew.cell? ⟨K4,1,none⟩=_:=HF.out.2.2.cell 1;refine bodyPost_ret (v:=.tuple #[.agg #[.int .i64 0,.string ⟨#[]⟩,.string ⟨#[]⟩,.slice none 0 0],.agg #[.int .i64 12,.int .i64 z]]) (by simp[results,Tryz.results59,go_sem,j0,j1,j2,j3,j4,j5]) rfl ?_;exact⟨_,by rw[HV.out],by rw[HV.out];exact trP0,HF.out.1.drew⟩
end Tre
namespace Rws
open Utf
open Go.RowKit
theorem ret_str {a b:ByteArray} (h:a=b):Ending.returned (.string a)=.returned (.string b):=by rw[h]
theorem b35 (b:UInt8):((b.toNat:Int)==35)=(b==35):=by
 rw[Bool.eq_iff_iff];simp only[beq_iff_eq];constructor
 ·intro h;apply UInt8.toNat_inj.1;have:b.toNat=35:=by omega
  rw[this];rfl
 ·rintro rfl;rfl
theorem b9 (b:UInt8):((b.toNat:Int)==9)=(b==9):=by
 rw[Bool.eq_iff_iff];simp only[beq_iff_eq];constructor
 ·intro h;apply UInt8.toNat_inj.1;have:b.toNat=9:=by omega
  rw[this];rfl
 ·rintro rfl;rfl
theorem b32' (b:UInt8):((b.toNat:Int)==32)=(b==32):=b32 b
theorem isSpace_any (b:UInt8) (w:World):Calls Tryz.prog 78 #[.int .u8 b.toNat] w fun e w'=>e=.returned (.bool (sp b))/\w=w':=by
 have h1:=b32' b;have h2:=b9 b;have HE:Hid (sp b=(b==32 || b==9)):=rfl;cases hb:(b==32)
 ·rw[hb]at h1;go_enter Tryz.func78,Tryz.ntmps78;go_wp2;go_ret;rw[HE.out,hb];exact⟨by simp,rfl⟩
 ·rw[hb]at h1;go_enter Tryz.func78,Tryz.ntmps78;go_wp2;go_ret;rw[HE.out,hb];exact⟨by simp,rfl⟩
end Rws
namespace Rws
open Utf
open Go.RowKit
theorem mk_getD (l:List UInt8) (k:Nat) (h:k<(mk l).size):(mk l)[k]'h=l.getD k 0:=by
 rw[mk_get,List.getD_eq_getElem?_getD,List.getElem?_eq_getElem (by rw[mk_size]at h;exact h)];rfl
theorem take_snoc (l:List UInt8) (e:Nat) (h:e<l.length):l.take (e+1)=l.take e++[l.getD e 0]:=by
 rw[List.take_succ_eq_append_getElem h,List.getD_eq_getElem?_getD,List.getElem?_eq_getElem h];rfl
theorem b35' (b:UInt8):((b.toNat:Int)==35)=(b==35):=b35 b
theorem note_any (l:List UInt8) (w:World) (hs:l.length<=140737488355328):Calls Tryz.prog 58 #[.string (mk l)] w fun e w'=>e=.returned (.string (mk (note l)))/\w=w':=by
 have hsz:=mk_size l;go_enter Tryz.func58,Tryz.ntmps58;go_wp2
 go_loop [0,7] (fun u i=>∃ n:Nat,n<=l.length/\u=.string (mk l)/\i=.int .i64 n/\hx true l=n+hx (at0 l n) (l.drop n)) (fun _ i=>l.length-(intOf i).toNat)
 case atStart=>exact⟨0,Nat.zero_le _,rfl,rfl,by simp[at0]⟩
 case round =>
  obtain⟨n,hn,rfl,rfl,ht⟩:=hrel;have HT:Hid (hx true l=n+hx (at0 l n) (l.drop n)):=ht;clear ht;by_cases hlt:n<l.length
  ·have hx0:=hx_at l n hlt;have hg:∀ h,(mk l)[n]'h=l.getD n 0:=fun h=>mk_getD l n h
   have hb:=b35' (l.getD n 0);have hlt':n<(mk l).size:=by rw[mk_size];exact hlt
   cases hq:(l.getD n 0==35 && at0 l n)
   ·-- no note begins here
    rw[hq]at hx0;have HX0:hx (at0 l n) (l.drop n)=hx (at0 l (n+1)) (l.drop (n+1))+1:=by simpa using hx0
    have HX:Hid (hx (at0 l n) (l.drop n)=hx (at0 l (n+1)) (l.drop (n+1))+1):=HX0;clear HX0;clear hx0;cases h35:(l.getD n 0==35)
    ·rw[h35]at hb;clear hq;generalize l.getD n 0=b at hg hb;go_wp2;go_round
     case rel=>exact⟨n+1,by omega,rfl,by go_num,by rw[HT.out,HX.out];omega⟩
     case measure=>simp[intOf];omega
    ·rw[h35]at hb;rw[h35,Bool.true_and]at hq;have hn0:n≠0:=by rintro rfl;simp[at0]at hq
     obtain⟨m,rfl⟩:∃ m,n=m+1:=⟨n-1,by omega⟩;have hsp:sp (l.getD m 0)=false:=by simpa [at0]using hq
     have hlm:m<(mk l).size:=by omega
     have hg2:∀ h,(mk l)[m]'h=l.getD m 0:=fun h=>mk_getD l m h
     clear hq h35;generalize l.getD (m+1) 0=b at hg hb;generalize l.getD m 0=b2 at hg2 hsp;go_wp2_with (first | (go_at_call 78;refine(isSpace_any _ _).mono ?_;rintro e w' ⟨rfl,rfl⟩));go_round
     case rel=>exact⟨m+1+1,by omega,rfl,by go_num,by rw[HT.out,HX.out];omega⟩
     case measure=>simp[intOf];omega
   ·rw[hq]at hx0;have HX0:hx true l=n:=by have:=HT.out;rw[hx0]at this;simpa using this
    have HX:Hid (hx true l=n):=HX0;clear HX0;clear hx0 HT;have h35:(l.getD n 0==35)=true:=by simp only[Bool.and_eq_true]at hq;exact hq.1
    have hat:at0 l n=true:=by simp only[Bool.and_eq_true]at hq;exact hq.2
    rw[h35]at hb;clear hq h35;obtain⟨M,HM⟩:∃ M,Hid (M=l.take n):=⟨_,rfl⟩;have hMl:(mk M).size=M.length:=mk_size M;have hMn:M.length=n:=by rw[HM.out,List.length_take];omega
    have hex:(mk l).extract 0 n=mk M:=by rw[mk_ext,HM.out];simp
    have FIN:note l=trR sp M:=by unfold note;rw[HX.out,HM.out]
    have HF:Hid (note l=trR sp M):=FIN;clear FIN;by_cases hn0:n=0
    ·subst hn0;generalize l.getD 0 0=b at hg hb;clear hat
     have H0:Hid (mk (note l)=ByteArray.empty):=by
      have e:note l=[]:=by rw[HF.out,HM.out];rfl
      rw[e];exact rfl
     clear hex hMl hMn HM HF;go_wp2
     go_loop [4] (fun e=>e=.int .i64 0) (fun _=>0)
     case atStart=>exact rfl
     case round =>
      obtain rfl:=hrel;go_wp2;go_ret;rw[H0.out];exact⟨rfl,rfl⟩
    ·obtain⟨m,rfl⟩:∃ m,n=m+1:=⟨n-1,by omega⟩;have hsp:sp (l.getD m 0)=true:=by simpa [at0]using hat
     have hlm:m<(mk l).size:=by omega
     have hg2:∀ h,(mk l)[m]'h=l.getD m 0:=fun h=>mk_getD l m h
     clear hat;generalize l.getD (m+1) 0=b at hg hb;generalize l.getD m 0=b2 at hg2 hsp;go_wp2_with (first | (go_at_call 78;refine(isSpace_any _ _).mono ?_;rintro e w' ⟨rfl,rfl⟩))
     go_loop [4] (fun e=>∃ n:Nat,n<=M.length/\e=.int .i64 n/\trR sp M=trR sp (M.take n)) (fun e=>(intOf e).toNat)
     case atStart=>exact⟨M.length,Nat.le_refl _,by first | rfl | (congr 1;omega) | (simp;omega),by rw[List.take_length]⟩
     case round =>
      obtain⟨n,hn,rfl,ht⟩:=hrel;have HT:Hid (trR sp M=trR sp (M.take n)):=ht;clear ht
      cases n with
      | zero =>
       go_wp2;go_ret;have e1:ByteArray.empty=mk []:=rfl;have e2:trR sp M=[]:=HT.out;rw[HF.out,e2];exact⟨ret_str e1,rfl⟩
      | succ n =>
       have hlt:n<(mk M).size:=by rw[mk_size];omega
       have hle2:n+1<=140737488355328:=by omega
       have hg:∀ h,(mk M)[n]'h=M.getD n 0:=fun h=>mk_getD M n h
       have hte:=take_snoc M n (by omega);have HG:Hid (M.take (n+1)=M.take n++[M.getD n 0]):=hte;clear hte;generalize M.getD n 0=b at hg HG;cases hb:sp b
       ·have HN:Hid (trR sp (M.take n++[b])=M.take n++[b]):=by rw[trR_snoc,hb];rfl
        go_wp2_with (first | (go_at_call 78;refine(isSpace_any _ _).mono ?_;rintro e w' ⟨rfl,rfl⟩));go_ret;have e1:(mk M).extract 0 (n+1)=mk (M.take (n+1)):=by rw[mk_ext];simp
        have e2:trR sp M=M.take (n+1):=by rw[HT.out,HG.out,HN.out]
        rw[HF.out,e2];exact⟨ret_str e1,rfl⟩
       ·have HN:Hid (trR sp (M.take n++[b])=trR sp (M.take n)):=by rw[trR_snoc,hb];rfl
        go_wp2_with (first | (go_at_call 78;refine(isSpace_any _ _).mono ?_;rintro e w' ⟨rfl,rfl⟩));go_round
        case rel=>exact⟨n,by omega,by go_num,by rw[HT.out,HG.out,HN.out]⟩
        case measure=>simp[intOf]
  ·obtain rfl:n=l.length:=by omega
   obtain⟨M,HM⟩:∃ M,Hid (M=l):=⟨_,rfl⟩
   have HF:Hid (note l=trR sp M):=by
    have h1:=HT.out;rw[List.drop_of_length_le (Nat.le_refl _)]at h1;have h2:hx true l=l.length:=h1;rw[HM.out];unfold note;rw[h2,List.take_length];exact rfl
   have hl:=HM.out;subst hl;go_wp2
   go_loop [4] (fun e=>∃ n:Nat,n<=M.length/\e=.int .i64 n/\trR sp M=trR sp (M.take n)) (fun e=>(intOf e).toNat)
   case atStart=>exact⟨M.length,Nat.le_refl _,by first | rfl | (congr 1;omega) | (simp;omega),by rw[List.take_length]⟩
   case round =>
    obtain⟨n,hn,rfl,ht⟩:=hrel;have HT:Hid (trR sp M=trR sp (M.take n)):=ht;clear ht
    cases n with
    | zero =>
     go_wp2;go_ret;have e1:ByteArray.empty=mk []:=rfl;have e2:trR sp M=[]:=HT.out;rw[HF.out,e2];exact⟨ret_str e1,rfl⟩
    | succ n =>
     have hlt:n<(mk M).size:=by rw[mk_size];omega
     have hle2:n+1<=140737488355328:=by omega
     have hg:∀ h,(mk M)[n]'h=M.getD n 0:=fun h=>mk_getD M n h
     have hte:=take_snoc M n (by omega);have HG:Hid (M.take (n+1)=M.take n++[M.getD n 0]):=hte;clear hte;generalize M.getD n 0=b at hg HG;cases hb:sp b
     ·have HN:Hid (trR sp (M.take n++[b])=M.take n++[b]):=by rw[trR_snoc,hb];rfl
      go_wp2_with (first | (go_at_call 78;refine(isSpace_any _ _).mono ?_;rintro e w' ⟨rfl,rfl⟩));go_ret;have e1:(mk M).extract 0 (n+1)=mk (M.take (n+1)):=by rw[mk_ext];simp
      have e2:trR sp M=M.take (n+1):=by rw[HT.out,HG.out,HN.out]
      rw[HF.out,e2];exact⟨ret_str e1,rfl⟩
     ·have HN:Hid (trR sp (M.take n++[b])=trR sp (M.take n)):=by rw[trR_snoc,hb];rfl
      go_wp2_with (first | (go_at_call 78;refine(isSpace_any _ _).mono ?_;rintro e w' ⟨rfl,rfl⟩));go_round
      case rel=>exact⟨n,by omega,by go_num,by rw[HT.out,HG.out,HN.out]⟩
      case measure=>simp[intOf]
end Rws
namespace Blk
open Go.RowKit
open Rws (mk mk_data mk_size mk_of mk_ext mk_get mk_inj)
theorem head_none (s:Ln) (h:∀ f (c:Int),0<=c->c<=2->mark f c≠s):headO s=none:=by
 unfold headO
 rw[if_neg (fun e=>h false 0 (by decide) (by decide) e.symm),if_neg (fun e=>h false 1 (by decide) (by decide) e.symm),if_neg (fun e=>h false 2 (by decide) (by decide) e.symm),
  if_neg (fun e=>h true 0 (by decide) (by decide) e.symm),if_neg (fun e=>h true 1 (by decide) (by decide) e.symm),if_neg (fun e=>h true 2 (by decide) (by decide) e.symm)]
def hdV (s:Ln):Value:=match headO s with
 | some (f,c)=>.tuple #[.agg #[.bool f,.int .i64 c],.bool true]
 | none=>.tuple #[.agg #[.bool false,.int .i64 0],.bool false]
theorem mk_beq (a b:Ln):((mk a).toList==(mk b).toList)=decide (a=b):=by
 rw[ByteArray.toList_eq,ByteArray.toList_eq,mk_data,mk_data];by_cases h:a=b<;>simp[h]
theorem head_yes (s:Ln) (f:Bool) (c:Int) (h0:0<=c) (h2:c<=2) (h:mark f c=s):hdV s=.tuple #[.agg #[.bool f,.int .i64 c],.bool true]:=by
 unfold hdV;rw[<-h,head_mark f c h0 h2]
theorem head_no (s:Ln) (h:∀ f (j:Int),0<=j->j<3->mark f j≠s):hdV s=.tuple #[.agg #[.bool false,.int .i64 0],.bool false]:=by
 unfold hdV;rw[head_none s (fun f c h0 h2=>h f c h0 (by omega))]
theorem ix0 (w:World):(Instr.index 124 (.agg #[.bool false,.bool true]) (.int .i64 0)).run Tryz.prog w=.ok (.bool false) w:=by kernel_rfl
theorem ix1 (w:World):(Instr.index 124 (.agg #[.bool false,.bool true]) (.int .i64 1)).run Tryz.prog w=.ok (.bool true) w:=by kernel_rfl
set_option maxHeartbeats 2000000 in
theorem head_any (s:Ln) (w:World):Calls Tryz.prog 57 #[.string (mk s)] w fun e w'=>e=.returned (hdV s)/\Below w.heap.size w w':=by
 obtain⟨W,hW⟩:∃ W,w.alloc (.cells #[.bool false,.int .i64 0] 101)=W:=⟨_,rfl⟩;have hbW:Below w.heap.size w W:=by rw[<-hW];exact(Below.refl _ _).alloc (Nat.le_refl _) _
 have hWs:W.heap.size=w.heap.size+1:=by rw[<-hW];simp
 have hcW:W.heap[w.heap.size]?=some (.cells #[.bool false,.int .i64 0] 101 (0,0)):=by rw[<-hW];exact heap_alloc_new w _
 have HKK:Hid (∀ W2,Below (w.heap.size+1) W W2->Below w.heap.size w W2/\W2.cell? ⟨w.heap.size,0,none⟩=some (.bool false)/\W2.cell? ⟨w.heap.size,1,none⟩=some (.int .i64 0)/\W2.frozen? ⟨w.heap.size,0,none⟩=false/\W2.frozen? ⟨w.heap.size,1,none⟩=false):=fun W2 hb=>by
  have hk:W2.heap[w.heap.size]?=some (.cells #[.bool false,.int .i64 0] 101 (0,0)):=(hb.block _ (by omega)).trans hcW;exact⟨hbW.trans (hb.mono (by omega)),by rw[Lib.cell_of_heap hk];rfl,by rw[Lib.cell_of_heap hk];rfl,Lib.frozen_of_heap hk 0,Lib.frozen_of_heap hk 1⟩
 have HWS:Hid (W.heap.size=w.heap.size+1):=hWs;clear hbW hcW hWs;have ix0:=ix0;have ix1:=ix1;go_enter Tryz.func57,Tryz.ntmps57;go_wp2
 go_loopw [4] (fun c wr=>∃ k:Nat,k<=3/\c=.int .i64 (k:Int)/\Below (w.heap.size+1) W wr/\w.heap.size+1<=wr.heap.size/\(∀ f (j:Int),0<=j->j<(k:Int)->mark f j≠s)) (fun c _=>3-(intOf c).toNat)
 case atStart=>exact⟨0,by omega,rfl,Below.refl _ _,by rw[HWS.out];exact Nat.le_refl _,fun f j h0 h1=>absurd h1 (by omega)⟩
 case round =>
  clear hW;obtain⟨k,hk,rfl,hbe,hws,hno⟩:=hrel;have HB:Hid (Below (w.heap.size+1) W wr):=hbe;have HN:Hid (∀ f (j:Int),0<=j->j<(k:Int)->mark f j≠s):=hno;clear hbe hno;by_cases hlt:k<3
  ·have hd:decide ((k:Int)<=2)=true:=by simp;omega
   go_wp2;clear hd
   go_loopw [13] (fun i wr2=>∃ j:Nat,j<=2/\i=.int .i64 (j:Int)/\Below (w.heap.size+1) W wr2/\w.heap.size+1<=wr2.heap.size/\(0<j->mark false k≠s)/\(1<j->mark true k≠s)) (fun i _=>2-(intOf i).toNat)
   case atStart=>exact⟨0,by omega,rfl,HB.out,hws,fun h=>absurd h (by omega),fun h=>absurd h (by omega)⟩
   case round =>
    clear HB hws;obtain⟨j,hj,rfl,hbe,hws,n0,n1⟩:=hrel;have HB:Hid (Below (w.heap.size+1) W wr):=hbe;have N0:Hid (0<j->mark false k≠s):=n0;have N1:Hid (1<j->mark true k≠s):=n1;clear hbe n0 n1;rcases(show j=0\/j=1\/j=2 by omega)with rfl | rfl | rfl
    ·go_wp2_with fail;refine(mark_any false k _).mono ?_;rintro e w1 ⟨rfl,hb1⟩;rw[World.size_alloc]at hb1;have hb2:Below (w.heap.size+1) W w1:=(HB.out.alloc hws _).trans (hb1.mono (by omega));have hs1:w.heap.size+1<=w1.heap.size:=by have:=hb1.size;rw[World.size_alloc]at this;omega
     have hcl:w1.heap[wr.heap.size]?=some (.cells #[.bool false,.int .i64 (k:Int)] 101 (0,0)):=(hb1.block _ (by omega)).trans (heap_alloc_new wr _);have e0:w1.cell? ⟨wr.heap.size,0,none⟩=some (.bool false):=by rw[Lib.cell_of_heap hcl];rfl
     have e1:w1.cell? ⟨wr.heap.size,1,none⟩=some (.int .i64 (k:Int)):=by rw[Lib.cell_of_heap hcl];rfl
     obtain⟨b0,d0,d1,d2,d3⟩:=HKK.out _ hb2;have hq:=mk_beq (mark false k) s;clear hb1 hcl;by_cases hm:mark false k=s
     ·rw[decide_eq_true hm]at hq;have HV:=head_yes s false k (by omega) (by omega) hm;go_wp2;refine bodyPost_ret (v:=.tuple #[.agg #[.bool false,.int .i64 (k:Int)],.bool true]) (by simp[results,Tryz.results57,go_sem,d0,d1]) rfl ⟨by rw[HV],(b0.setCell (p:=⟨w.heap.size,0,none⟩) (Nat.le_refl _) _).setCell (p:=⟨w.heap.size,1,none⟩) (Nat.le_refl _) _⟩
     ·rw[decide_eq_false hm]at hq;go_wp2;go_roundw
      case rel=>exact⟨0+1,by omega,by go_num,hb2,hs1,fun _=>hm,fun h=>absurd h (by omega)⟩
      case measure=>(simp[intOf]<;>omega)
    ·go_wp2_with fail;refine(mark_any true k _).mono ?_;rintro e w1 ⟨rfl,hb1⟩;rw[World.size_alloc]at hb1;have hb2:Below (w.heap.size+1) W w1:=(HB.out.alloc hws _).trans (hb1.mono (by omega));have hs1:w.heap.size+1<=w1.heap.size:=by have:=hb1.size;rw[World.size_alloc]at this;omega
     have hcl:w1.heap[wr.heap.size]?=some (.cells #[.bool true,.int .i64 (k:Int)] 101 (0,0)):=(hb1.block _ (by omega)).trans (heap_alloc_new wr _);have e0:w1.cell? ⟨wr.heap.size,0,none⟩=some (.bool true):=by rw[Lib.cell_of_heap hcl];rfl
     have e1:w1.cell? ⟨wr.heap.size,1,none⟩=some (.int .i64 (k:Int)):=by rw[Lib.cell_of_heap hcl];rfl
     obtain⟨b0,d0,d1,d2,d3⟩:=HKK.out _ hb2;have hq:=mk_beq (mark true k) s;clear hb1 hcl;by_cases hm:mark true k=s
     ·rw[decide_eq_true hm]at hq;have HV:=head_yes s true k (by omega) (by omega) hm;go_wp2;refine bodyPost_ret (v:=.tuple #[.agg #[.bool true,.int .i64 (k:Int)],.bool true]) (by simp[results,Tryz.results57,go_sem,d0,d1]) rfl ⟨by rw[HV],(b0.setCell (p:=⟨w.heap.size,0,none⟩) (Nat.le_refl _) _).setCell (p:=⟨w.heap.size,1,none⟩) (Nat.le_refl _) _⟩
     ·rw[decide_eq_false hm]at hq;go_wp2;go_roundw
      case rel=>exact⟨1+1,by omega,by go_num,hb2,hs1,fun _=>N0.out (by omega),fun h=>hm⟩
      case measure=>(simp[intOf]<;>omega)
    ·have n0:=N0.out (by omega);have n1:=N1.out (by omega)
     have HNN:Hid (∀ f (j:Int),0<=j->j<((k+1:Nat):Int)->mark f j≠s):=by
      intro f j h0 h1;by_cases hj:j<(k:Int)
      ·exact HN.out f j h0 hj
      ·obtain rfl:j=(k:Int):=by omega
       cases f
       ·exact n0
       ·exact n1
     clear n0 n1;go_wp2;go_roundw
     case rel=>exact⟨k+1,by omega,by go_num,HB.out,hws,HNN.out⟩
     case measure=>(simp[intOf]<;>omega)
  ·obtain rfl:k=3:=by omega
   have HV:=head_no s HN.out;obtain⟨b0,d0,d1,d2,d3⟩:=HKK.out _ HB.out;clear HN;go_wp2;refine bodyPost_ret (v:=.tuple #[.agg #[.bool false,.int .i64 0],.bool false]) (by simp[results,Tryz.results57,go_sem,d0,d1]) rfl ⟨by rw[HV],(b0.setCell (p:=⟨w.heap.size,0,none⟩) (Nat.le_refl _) _).setCell (p:=⟨w.heap.size,1,none⟩) (Nat.le_refl _) _⟩
end Blk
namespace Tre
open Utf Rws Pln Flw
open Go.RowKit
open Blk (Rw RwAt z3 lo rws joinW trm fld headO hdV)
set_option maxHeartbeats 8000000
def mnM (bel:Pp->Tr × Int × Int) (c z:Int) (l:Ln) (rs:List Rw):Tr × Int × Int :=
 if noth (CP ⟨[],0⟩ l).2=true then bel (CP ⟨[],0⟩ l).1 else match headO (note (CP ⟨[],0⟩ l).2)with
  | some s=>blM c z (CP ⟨[],0⟩ l).1 s.1 s.2 rs
  | none=>lnM c z l rs
theorem meaning_below (d:Nat) (ar:Int) (c:Int) (x:Ln) (z:Int) (l lf pa:Ln) (pt:Int) (a:Option Addr) (len cap:Nat) (w:World) (R:Tr × Int × Int) (hl:l.length<=65536) (hlf:lf.length<=65536) (hcp:CP ⟨[],0⟩ l=(⟨pa,pt⟩,lf)) (hno:noth lf=true)
  (HBE:Hid (∀ w0,Below w.heap.size w w0->Calls Tryz.prog 14 #[.int .i64 ar,.agg #[.int .i64 c,.string (mk x),.int .i64 z],.agg #[.string (mk pa),.int .i64 pt],.slice a len cap] w0 fun e w'=>TfD d R w0 e w')):Calls Tryz.prog 39 #[.int .i64 ar,rV c x z,.string (mk l),.slice a len cap] w fun e w'=>TfD d R w e w':=by
 have N3:Hid (_/\_/\_/\_):=three_new w #[.int .i64 c,.string (mk x),.int .i64 z] zT #[.int .i64 0,.int .i64 0] 45 24 33
 have HCP:Hid (∀ w0,Calls Tryz.prog 32 #[.string (mk l)] w0 fun e w'=>e=.returned (.tuple #[.agg #[.string (mk pa),.int .i64 pt],.string (mk lf)])/\Below w0.heap.size w0 w'):=fun w0=>by
  have h:=cutProperties_any l w0 (by omega);rw[hcp]at h;exact h
 go_enter Tryz.func39,Tryz.ntmps39;go_wp2_with fail;change Calls _ _ _ (((w.alloc (.cells #[.int .i64 c,.string (mk x),.int .i64 z] 45)).alloc (.cells zT 24)).alloc (.cells #[.int .i64 0,.int .i64 0] 33)) _;generalize ((w.alloc (.cells #[.int .i64 c,.string (mk x),.int .i64 z] 45)).alloc (.cells zT 24)).alloc (.cells #[.int .i64 0,.int .i64 0] 33)=W at N3 |-;obtain⟨K2,hK2⟩:∃ K,K=w.heap.size+1+1:=⟨_,rfl⟩;obtain⟨K1,hK1⟩:∃ K,K=w.heap.size+1:=⟨_,rfl⟩;obtain⟨K0,hK0⟩:∃ K,K=w.heap.size:=⟨_,rfl⟩
 have HN:Hid (Below w.heap.size w W/\Bx W K0 #[.int .i64 c,.string (mk x),.int .i64 z] 45/\Bx W K1 zT 24/\Bx W K2 #[.int .i64 0,.int .i64 0] 33):=by
  rw[hK0,hK1,hK2];exact N3.out
 rw[<-hK2,<-hK1,<-hK0];have hwW:w.heap.size<=K0/\K0<K1/\K1<K2:=by omega
 have hK2W:K2<W.heap.size:=HN.out.2.2.2.lt;clear N3 hK0 hK1 hK2;refine(HCP.out W).mono ?_;rintro e w4 ⟨rfl,H4⟩;have b5:=below_alloc w4 (.cells #[.string (mk pa),.int .i64 pt] 49);have n5:=Bx.new w4 #[.string (mk pa),.int .i64 pt] 49;go_upto_region 2 with fail
 generalize w4.alloc (.cells #[.string (mk pa),.int .i64 pt] 49)=w5 at b5 n5 |-;obtain⟨KP,hKP⟩:∃ K,K=w4.heap.size:=⟨_,rfl⟩;rw[<-hKP]at n5 |-;have G5:=H4.trans (b5.mono H4.size);have HS5:Hid (Below w.heap.size w w5/\Bx w5 K0 #[.int .i64 c,.string (mk x),.int .i64 z] 45/\Bx w5 K1 zT 24/\Bx w5 K2 #[.int .i64 0,.int .i64 0] 33/\Bx w5 KP #[.string (mk pa),.int .i64 pt] 49/\W.heap.size<=w5.heap.size):=⟨HN.out.1.trans (G5.mono HN.out.1.size),HN.out.2.1.later G5,HN.out.2.2.1.later G5,HN.out.2.2.2.later G5,n5,G5.size⟩;have hKPW:W.heap.size<=KP:=by have:=H4.size;omega
 clear b5 n5 G5 hKP H4 HN HCP;have HIE:Hid (∀ w0,Calls Tryz.prog 33 #[.string (mk lf)] w0 fun e w'=>e=.returned (.bool (noth lf))/\w0=w'):=fun w0=>isEmpty_any lf w0 (by omega)
 rw[hno]at HIE;obtain⟨r0,r1,r2⟩:=HS5.out.2.1.c3;obtain⟨q0,q1⟩:=HS5.out.2.2.2.2.1.c2;go_wp2_with fail;refine(HIE.out _).mono ?_;rintro e w' ⟨rfl,rfl⟩;go_wp2_with fail;refine(HBE.out w5 HS5.out.1).mono ?_;rintro e w8 ⟨v,rfl,ht,hb8⟩;obtain⟨k2,x2,a2,ad2,len2,cap2,rfl⟩:=ht.cells;have B8:Hid (Below w.heap.size w w8/\Bx w8 K1 zT 24/\Bx w8 K2 #[.int .i64 0,.int .i64 0] 33):=⟨HS5.out.1.trans (hb8.mono HS5.out.1.size),HS5.out.2.2.1.later hb8,HS5.out.2.2.2.1.later hb8⟩;have HT8:Hid (TrP W.heap.size w8 d (.agg #[.int .i64 k2,.string x2,.string a2,.slice ad2 len2 cap2]) R.1):=TrP.mono HS5.out.2.2.2.2.2 ht;clear ht hb8;obtain⟨d0,d1,d2,d3,d4,d5,z0,z1,z2,z3,z4,z5⟩:=c6_of B8.out.2.1 B8.out.2.2;have hq1:K1<W.heap.size:=by omega
 have hn12:K1≠K2:=by omega
 have hn21:K2≠K1:=by omega
 have HF:Hid (_/\_/\_):=fill6_is B8.out.2.1 B8.out.2.2 (by omega) B8.out.1 (by omega) (by omega) (.int .i64 k2) (.string x2) (.string a2) (.slice ad2 len2 cap2) (.int .i64 R.2.1) (.int .i64 R.2.2)
 have HTF:Hid (TrP w.heap.size (fill6 w8 K1 K2 (.int .i64 k2) (.string x2) (.string a2) (.slice ad2 len2 cap2) (.int .i64 R.2.1) (.int .i64 R.2.2)) d (.agg #[.int .i64 k2,.string x2,.string a2,.slice ad2 len2 cap2]) R.1) :=
  TrP.mono (c:=W.heap.size) (by omega) ((((((HT8.out.set hq1).set hq1).set hq1).set hq1).set hK2W).set hK2W)
 clear B8 HT8 HS5;obtain⟨R1,R2,R3⟩:=R;go_wp2;change bodyPost _ _ _ _ _ (fill6 w8 K1 K2 (.int .i64 k2) (.string x2) (.string a2) (.slice ad2 len2 cap2) (.int .i64 R2) (.int .i64 R3));generalize fill6 w8 K1 K2 (.int .i64 k2) (.string x2) (.string a2) (.slice ad2 len2 cap2) (.int .i64 R2) (.int .i64 R3)=WF at HF HTF |-;have j0:WF.cell? ⟨K1,0,none⟩=_:=HF.out.2.1.cell 0;have j1:WF.cell? ⟨K1,1,none⟩=_:=HF.out.2.1.cell 1;have j2:WF.cell? ⟨K1,2,none⟩=_:=HF.out.2.1.cell 2;have j3:WF.cell? ⟨K1,3,none⟩=_:=HF.out.2.1.cell 3;have j4:WF.cell? ⟨K2,0,none⟩=_:=HF.out.2.2.cell 0;have j5:WF.cell? ⟨K2,1,none⟩=_:=HF.out.2.2.cell 1;exact bodyPost_ret (v:=.tuple #[.agg #[.int .i64 k2,.string x2,.string a2,.slice ad2 len2 cap2],.agg #[.int .i64 R2,.int .i64 R3]]) (by simp[results,Tryz.results39,go_sem,j0,j1,j2,j3,j4,j5]) rfl ⟨_,rfl,HTF.out,HF.out.1⟩
theorem meaning_line (d:Nat) (ar:Int) (c:Int) (x:Ln) (z:Int) (l lf pa:Ln) (pt:Int) (a:Option Addr) (len cap:Nat) (w:World) (R:Tr × Int × Int) (hl:l.length<=65536) (hlf:lf.length<=65536) (hcp:CP ⟨[],0⟩ l=(⟨pa,pt⟩,lf)) (hno:noth lf=false) (hh:headO (note lf)=none)
  (HLI:Hid (∀ w0,Below w.heap.size w w0->Calls Tryz.prog 60 #[.agg #[.int .i64 c,.string (mk x),.int .i64 z],.string (mk l),.slice a len cap] w0 fun e w'=>TfD d R w0 e w')):Calls Tryz.prog 39 #[.int .i64 ar,rV c x z,.string (mk l),.slice a len cap] w fun e w'=>TfD d R w e w':=by
 have N3:Hid (_/\_/\_/\_):=three_new w #[.int .i64 c,.string (mk x),.int .i64 z] zT #[.int .i64 0,.int .i64 0] 45 24 33
 have HCP:Hid (∀ w0,Calls Tryz.prog 32 #[.string (mk l)] w0 fun e w'=>e=.returned (.tuple #[.agg #[.string (mk pa),.int .i64 pt],.string (mk lf)])/\Below w0.heap.size w0 w'):=fun w0=>by
  have h:=cutProperties_any l w0 (by omega);rw[hcp]at h;exact h
 go_enter Tryz.func39,Tryz.ntmps39;go_wp2_with fail;change Calls _ _ _ (((w.alloc (.cells #[.int .i64 c,.string (mk x),.int .i64 z] 45)).alloc (.cells zT 24)).alloc (.cells #[.int .i64 0,.int .i64 0] 33)) _;generalize ((w.alloc (.cells #[.int .i64 c,.string (mk x),.int .i64 z] 45)).alloc (.cells zT 24)).alloc (.cells #[.int .i64 0,.int .i64 0] 33)=W at N3 |-;obtain⟨K2,hK2⟩:∃ K,K=w.heap.size+1+1:=⟨_,rfl⟩;obtain⟨K1,hK1⟩:∃ K,K=w.heap.size+1:=⟨_,rfl⟩;obtain⟨K0,hK0⟩:∃ K,K=w.heap.size:=⟨_,rfl⟩
 have HN:Hid (Below w.heap.size w W/\Bx W K0 #[.int .i64 c,.string (mk x),.int .i64 z] 45/\Bx W K1 zT 24/\Bx W K2 #[.int .i64 0,.int .i64 0] 33):=by
  rw[hK0,hK1,hK2];exact N3.out
 rw[<-hK2,<-hK1,<-hK0];have hwW:w.heap.size<=K0/\K0<K1/\K1<K2:=by omega
 have hK2W:K2<W.heap.size:=HN.out.2.2.2.lt;clear N3 hK0 hK1 hK2;refine(HCP.out W).mono ?_;rintro e w4 ⟨rfl,H4⟩;have b5:=below_alloc w4 (.cells #[.string (mk pa),.int .i64 pt] 49);have n5:=Bx.new w4 #[.string (mk pa),.int .i64 pt] 49;go_upto_region 2 with fail
 generalize w4.alloc (.cells #[.string (mk pa),.int .i64 pt] 49)=w5 at b5 n5 |-;obtain⟨KP,hKP⟩:∃ K,K=w4.heap.size:=⟨_,rfl⟩;rw[<-hKP]at n5 |-;have G5:=H4.trans (b5.mono H4.size);have HS5:Hid (Below w.heap.size w w5/\Bx w5 K0 #[.int .i64 c,.string (mk x),.int .i64 z] 45/\Bx w5 K1 zT 24/\Bx w5 K2 #[.int .i64 0,.int .i64 0] 33/\Bx w5 KP #[.string (mk pa),.int .i64 pt] 49/\W.heap.size<=w5.heap.size):=⟨HN.out.1.trans (G5.mono HN.out.1.size),HN.out.2.1.later G5,HN.out.2.2.1.later G5,HN.out.2.2.2.later G5,n5,G5.size⟩;have hKPW:W.heap.size<=KP:=by have:=H4.size;omega
 clear b5 n5 G5 hKP H4 HN HCP;have HIE:Hid (∀ w0,Calls Tryz.prog 33 #[.string (mk lf)] w0 fun e w'=>e=.returned (.bool (noth lf))/\w0=w'):=fun w0=>isEmpty_any lf w0 (by omega)
 rw[hno]at HIE;obtain⟨r0,r1,r2⟩:=HS5.out.2.1.c3;obtain⟨q0,q1⟩:=HS5.out.2.2.2.2.1.c2;have HNO:Hid (∀ w0,Calls Tryz.prog 58 #[.string (mk lf)] w0 fun e w'=>e=.returned (.string (mk (note lf)))/\w0=w'):=fun w0=>note_any lf w0 (by omega)
 have HHE:Hid (∀ w0,Calls Tryz.prog 57 #[.string (mk (note lf))] w0 fun e w'=>e=.returned (.tuple #[.agg #[.bool false,.int .i64 0],.bool false])/\Below w0.heap.size w0 w'):=fun w0=>by
  have h:=Blk.head_any (note lf) w0;unfold Blk.hdV at h;rw[hh]at h;exact h
 generalize note lf=nl at *;go_wp2_with fail;refine(HIE.out _).mono ?_;rintro e w' ⟨rfl,rfl⟩;go_wp2_with fail;refine(HNO.out _).mono ?_;rintro e w' ⟨rfl,rfl⟩;go_wp2_with fail;refine(HHE.out _).mono ?_;rintro e w6 ⟨rfl,H6⟩;have b7:=below_alloc w6 (.cells #[.bool false,.int .i64 0] 101);have n7:=Bx.new w6 #[.bool false,.int .i64 0] 101;have G7:=H6.trans (b7.mono H6.size)
 have HS7:Hid (∀ w7,w7=w6.alloc (.cells #[.bool false,.int .i64 0] 101)->(Below w.heap.size w w7/\Bx w7 K0 #[.int .i64 c,.string (mk x),.int .i64 z] 45/\Bx w7 K1 zT 24/\Bx w7 K2 #[.int .i64 0,.int .i64 0] 33/\Bx w7 KP #[.string (mk pa),.int .i64 pt] 49/\W.heap.size<=w7.heap.size)/\Bx w7 w6.heap.size #[.bool false,.int .i64 0] 101):=fun w7 e=>by
  subst e;exact⟨⟨HS5.out.1.trans (G7.mono HS5.out.1.size),HS5.out.2.1.later G7,HS5.out.2.2.1.later G7,HS5.out.2.2.2.1.later G7,HS5.out.2.2.2.2.1.later G7,Nat.le_trans HS5.out.2.2.2.2.2 G7.size⟩,n7⟩
 clear r0 r1 r2 q0 q1 b7 n7 G7;go_upto_region 5 with fail
 have N7:=HS7.out _ rfl;clear HS7;generalize w6.alloc (.cells #[.bool false,.int .i64 0] 101)=w7 at N7 |-;have HS8:Hid (Below w.heap.size w w7/\Bx w7 K0 #[.int .i64 c,.string (mk x),.int .i64 z] 45/\Bx w7 K1 zT 24/\Bx w7 K2 #[.int .i64 0,.int .i64 0] 33/\Bx w7 KP #[.string (mk pa),.int .i64 pt] 49/\W.heap.size<=w7.heap.size):=N7.1;clear N7 H6 HS5;obtain⟨r0,r1,r2⟩:=HS8.out.2.1.c3;obtain⟨q0,q1⟩:=HS8.out.2.2.2.2.1.c2;go_wp2_with fail;refine(HLI.out w7 HS8.out.1).mono ?_;rintro e w8 ⟨v,rfl,ht,hb8⟩;obtain⟨k2,x2,a2,ad2,len2,cap2,rfl⟩:=ht.cells;have B8:Hid (Below w.heap.size w w8/\Bx w8 K1 zT 24/\Bx w8 K2 #[.int .i64 0,.int .i64 0] 33):=⟨HS8.out.1.trans (hb8.mono HS8.out.1.size),HS8.out.2.2.1.later hb8,HS8.out.2.2.2.1.later hb8⟩;have HT8:Hid (TrP W.heap.size w8 d (.agg #[.int .i64 k2,.string x2,.string a2,.slice ad2 len2 cap2]) R.1):=TrP.mono HS8.out.2.2.2.2.2 ht;clear ht hb8;obtain⟨d0,d1,d2,d3,d4,d5,z0,z1,z2,z3,z4,z5⟩:=c6_of B8.out.2.1 B8.out.2.2;have hq1:K1<W.heap.size:=by omega
 have hn12:K1≠K2:=by omega
 have hn21:K2≠K1:=by omega
 have HF:Hid (_/\_/\_):=fill6_is B8.out.2.1 B8.out.2.2 (by omega) B8.out.1 (by omega) (by omega) (.int .i64 k2) (.string x2) (.string a2) (.slice ad2 len2 cap2) (.int .i64 R.2.1) (.int .i64 R.2.2)
 have HTF:Hid (TrP w.heap.size (fill6 w8 K1 K2 (.int .i64 k2) (.string x2) (.string a2) (.slice ad2 len2 cap2) (.int .i64 R.2.1) (.int .i64 R.2.2)) d (.agg #[.int .i64 k2,.string x2,.string a2,.slice ad2 len2 cap2]) R.1) :=
  TrP.mono (c:=W.heap.size) (by omega) ((((((HT8.out.set hq1).set hq1).set hq1).set hq1).set hK2W).set hK2W)
 clear B8 HT8 HS8;obtain⟨R1,R2,R3⟩:=R;go_wp2;change bodyPost _ _ _ _ _ (fill6 w8 K1 K2 (.int .i64 k2) (.string x2) (.string a2) (.slice ad2 len2 cap2) (.int .i64 R2) (.int .i64 R3));generalize fill6 w8 K1 K2 (.int .i64 k2) (.string x2) (.string a2) (.slice ad2 len2 cap2) (.int .i64 R2) (.int .i64 R3)=WF at HF HTF |-;have j0:WF.cell? ⟨K1,0,none⟩=_:=HF.out.2.1.cell 0;have j1:WF.cell? ⟨K1,1,none⟩=_:=HF.out.2.1.cell 1;have j2:WF.cell? ⟨K1,2,none⟩=_:=HF.out.2.1.cell 2;have j3:WF.cell? ⟨K1,3,none⟩=_:=HF.out.2.1.cell 3;have j4:WF.cell? ⟨K2,0,none⟩=_:=HF.out.2.2.cell 0;have j5:WF.cell? ⟨K2,1,none⟩=_:=HF.out.2.2.cell 1;exact bodyPost_ret (v:=.tuple #[.agg #[.int .i64 k2,.string x2,.string a2,.slice ad2 len2 cap2],.agg #[.int .i64 R2,.int .i64 R3]]) (by simp[results,Tryz.results39,go_sem,j0,j1,j2,j3,j4,j5]) rfl ⟨_,rfl,HTF.out,HF.out.1⟩
theorem meaning_block (d:Nat) (ar:Int) (c:Int) (x:Ln) (z:Int) (l lf pa:Ln) (pt:Int) (a:Option Addr) (len cap:Nat) (w:World) (R:Tr × Int × Int) (hl:l.length<=65536) (hlf:lf.length<=65536) (hcp:CP ⟨[],0⟩ l=(⟨pa,pt⟩,lf)) (hno:noth lf=false) (fb:Bool) (fc:Int) (hh:headO (note lf)=some (fb,fc))
  (HBL:Hid (∀ w0,Below w.heap.size w w0->Calls Tryz.prog 59 #[.agg #[.int .i64 c,.string (mk x),.int .i64 z],.agg #[.string (mk pa),.int .i64 pt],.agg #[.bool fb,.int .i64 fc],.slice a len cap] w0 fun e w'=>TfD d R w0 e w')):Calls Tryz.prog 39 #[.int .i64 ar,rV c x z,.string (mk l),.slice a len cap] w fun e w'=>TfD d R w e w':=by
 have N3:Hid (_/\_/\_/\_):=three_new w #[.int .i64 c,.string (mk x),.int .i64 z] zT #[.int .i64 0,.int .i64 0] 45 24 33
 have HCP:Hid (∀ w0,Calls Tryz.prog 32 #[.string (mk l)] w0 fun e w'=>e=.returned (.tuple #[.agg #[.string (mk pa),.int .i64 pt],.string (mk lf)])/\Below w0.heap.size w0 w'):=fun w0=>by
  have h:=cutProperties_any l w0 (by omega);rw[hcp]at h;exact h
 go_enter Tryz.func39,Tryz.ntmps39;go_wp2_with fail;change Calls _ _ _ (((w.alloc (.cells #[.int .i64 c,.string (mk x),.int .i64 z] 45)).alloc (.cells zT 24)).alloc (.cells #[.int .i64 0,.int .i64 0] 33)) _;generalize ((w.alloc (.cells #[.int .i64 c,.string (mk x),.int .i64 z] 45)).alloc (.cells zT 24)).alloc (.cells #[.int .i64 0,.int .i64 0] 33)=W at N3 |-;obtain⟨K2,hK2⟩:∃ K,K=w.heap.size+1+1:=⟨_,rfl⟩;obtain⟨K1,hK1⟩:∃ K,K=w.heap.size+1:=⟨_,rfl⟩;obtain⟨K0,hK0⟩:∃ K,K=w.heap.size:=⟨_,rfl⟩
 have HN:Hid (Below w.heap.size w W/\Bx W K0 #[.int .i64 c,.string (mk x),.int .i64 z] 45/\Bx W K1 zT 24/\Bx W K2 #[.int .i64 0,.int .i64 0] 33):=by
  rw[hK0,hK1,hK2];exact N3.out
 rw[<-hK2,<-hK1,<-hK0];have hwW:w.heap.size<=K0/\K0<K1/\K1<K2:=by omega
 have hK2W:K2<W.heap.size:=HN.out.2.2.2.lt;clear N3 hK0 hK1 hK2;refine(HCP.out W).mono ?_;rintro e w4 ⟨rfl,H4⟩;have b5:=below_alloc w4 (.cells #[.string (mk pa),.int .i64 pt] 49);have n5:=Bx.new w4 #[.string (mk pa),.int .i64 pt] 49;go_upto_region 2 with fail
 generalize w4.alloc (.cells #[.string (mk pa),.int .i64 pt] 49)=w5 at b5 n5 |-;obtain⟨KP,hKP⟩:∃ K,K=w4.heap.size:=⟨_,rfl⟩;rw[<-hKP]at n5 |-;have G5:=H4.trans (b5.mono H4.size);have HS5:Hid (Below w.heap.size w w5/\Bx w5 K0 #[.int .i64 c,.string (mk x),.int .i64 z] 45/\Bx w5 K1 zT 24/\Bx w5 K2 #[.int .i64 0,.int .i64 0] 33/\Bx w5 KP #[.string (mk pa),.int .i64 pt] 49/\W.heap.size<=w5.heap.size):=⟨HN.out.1.trans (G5.mono HN.out.1.size),HN.out.2.1.later G5,HN.out.2.2.1.later G5,HN.out.2.2.2.later G5,n5,G5.size⟩;have hKPW:W.heap.size<=KP:=by have:=H4.size;omega
 clear b5 n5 G5 hKP H4 HN HCP;have HIE:Hid (∀ w0,Calls Tryz.prog 33 #[.string (mk lf)] w0 fun e w'=>e=.returned (.bool (noth lf))/\w0=w'):=fun w0=>isEmpty_any lf w0 (by omega)
 rw[hno]at HIE;obtain⟨r0,r1,r2⟩:=HS5.out.2.1.c3;obtain⟨q0,q1⟩:=HS5.out.2.2.2.2.1.c2;have HNO:Hid (∀ w0,Calls Tryz.prog 58 #[.string (mk lf)] w0 fun e w'=>e=.returned (.string (mk (note lf)))/\w0=w'):=fun w0=>note_any lf w0 (by omega)
 have HHE:Hid (∀ w0,Calls Tryz.prog 57 #[.string (mk (note lf))] w0 fun e w'=>e=.returned (.tuple #[.agg #[.bool fb,.int .i64 fc],.bool true])/\Below w0.heap.size w0 w'):=fun w0=>by
  have h:=Blk.head_any (note lf) w0;unfold Blk.hdV at h;rw[hh]at h;exact h
 generalize note lf=nl at *;go_wp2_with fail;refine(HIE.out _).mono ?_;rintro e w' ⟨rfl,rfl⟩;go_wp2_with fail;refine(HNO.out _).mono ?_;rintro e w' ⟨rfl,rfl⟩;go_wp2_with fail;refine(HHE.out _).mono ?_;rintro e w6 ⟨rfl,H6⟩;have b7:=below_alloc w6 (.cells #[.bool fb,.int .i64 fc] 101);have n7:=Bx.new w6 #[.bool fb,.int .i64 fc] 101;have G7:=H6.trans (b7.mono H6.size)
 have HS7:Hid (∀ w7,w7=w6.alloc (.cells #[.bool fb,.int .i64 fc] 101)->(Below w.heap.size w w7/\Bx w7 K0 #[.int .i64 c,.string (mk x),.int .i64 z] 45/\Bx w7 K1 zT 24/\Bx w7 K2 #[.int .i64 0,.int .i64 0] 33/\Bx w7 KP #[.string (mk pa),.int .i64 pt] 49/\W.heap.size<=w7.heap.size)/\Bx w7 w6.heap.size #[.bool fb,.int .i64 fc] 101):=fun w7 e=>by
  subst e;exact⟨⟨HS5.out.1.trans (G7.mono HS5.out.1.size),HS5.out.2.1.later G7,HS5.out.2.2.1.later G7,HS5.out.2.2.2.1.later G7,HS5.out.2.2.2.2.1.later G7,Nat.le_trans HS5.out.2.2.2.2.2 G7.size⟩,n7⟩
 clear r0 r1 r2 q0 q1 b7 n7 G7;go_upto_region 5 with fail
 have N7:=HS7.out _ rfl;clear HS7;generalize w6.alloc (.cells #[.bool fb,.int .i64 fc] 101)=w7 at N7 |-;have HS8:Hid (Below w.heap.size w w7/\Bx w7 K0 #[.int .i64 c,.string (mk x),.int .i64 z] 45/\Bx w7 K1 zT 24/\Bx w7 K2 #[.int .i64 0,.int .i64 0] 33/\Bx w7 KP #[.string (mk pa),.int .i64 pt] 49/\W.heap.size<=w7.heap.size):=N7.1;generalize w6.heap.size=KS at *;obtain⟨st0,st1⟩:=N7.2.c2;clear N7 H6 HS5;obtain⟨r0,r1,r2⟩:=HS8.out.2.1.c3;obtain⟨q0,q1⟩:=HS8.out.2.2.2.2.1.c2;go_wp2_with fail;refine(HBL.out w7 HS8.out.1).mono ?_;rintro e w8 ⟨v,rfl,ht,hb8⟩;obtain⟨k2,x2,a2,ad2,len2,cap2,rfl⟩:=ht.cells;have B8:Hid (Below w.heap.size w w8/\Bx w8 K1 zT 24/\Bx w8 K2 #[.int .i64 0,.int .i64 0] 33):=⟨HS8.out.1.trans (hb8.mono HS8.out.1.size),HS8.out.2.2.1.later hb8,HS8.out.2.2.2.1.later hb8⟩;have HT8:Hid (TrP W.heap.size w8 d (.agg #[.int .i64 k2,.string x2,.string a2,.slice ad2 len2 cap2]) R.1):=TrP.mono HS8.out.2.2.2.2.2 ht;clear ht hb8;obtain⟨d0,d1,d2,d3,d4,d5,z0,z1,z2,z3,z4,z5⟩:=c6_of B8.out.2.1 B8.out.2.2;have hq1:K1<W.heap.size:=by omega
 have hn12:K1≠K2:=by omega
 have hn21:K2≠K1:=by omega
 have HF:Hid (_/\_/\_):=fill6_is B8.out.2.1 B8.out.2.2 (by omega) B8.out.1 (by omega) (by omega) (.int .i64 k2) (.string x2) (.string a2) (.slice ad2 len2 cap2) (.int .i64 R.2.1) (.int .i64 R.2.2)
 have HTF:Hid (TrP w.heap.size (fill6 w8 K1 K2 (.int .i64 k2) (.string x2) (.string a2) (.slice ad2 len2 cap2) (.int .i64 R.2.1) (.int .i64 R.2.2)) d (.agg #[.int .i64 k2,.string x2,.string a2,.slice ad2 len2 cap2]) R.1) :=
  TrP.mono (c:=W.heap.size) (by omega) ((((((HT8.out.set hq1).set hq1).set hq1).set hq1).set hK2W).set hK2W)
 clear B8 HT8 HS8;obtain⟨R1,R2,R3⟩:=R;go_wp2;change bodyPost _ _ _ _ _ (fill6 w8 K1 K2 (.int .i64 k2) (.string x2) (.string a2) (.slice ad2 len2 cap2) (.int .i64 R2) (.int .i64 R3));generalize fill6 w8 K1 K2 (.int .i64 k2) (.string x2) (.string a2) (.slice ad2 len2 cap2) (.int .i64 R2) (.int .i64 R3)=WF at HF HTF |-;have j0:WF.cell? ⟨K1,0,none⟩=_:=HF.out.2.1.cell 0;have j1:WF.cell? ⟨K1,1,none⟩=_:=HF.out.2.1.cell 1;have j2:WF.cell? ⟨K1,2,none⟩=_:=HF.out.2.1.cell 2;have j3:WF.cell? ⟨K1,3,none⟩=_:=HF.out.2.1.cell 3;have j4:WF.cell? ⟨K2,0,none⟩=_:=HF.out.2.2.cell 0;have j5:WF.cell? ⟨K2,1,none⟩=_:=HF.out.2.2.cell 1;exact bodyPost_ret (v:=.tuple #[.agg #[.int .i64 k2,.string x2,.string a2,.slice ad2 len2 cap2],.agg #[.int .i64 R2,.int .i64 R3]]) (by simp[results,Tryz.results39,go_sem,j0,j1,j2,j3,j4,j5]) rfl ⟨_,rfl,HTF.out,HF.out.1⟩
end Tre
namespace Tre
open Utf Rws Pln Flw
open Go.RowKit
set_option maxHeartbeats 4000000
variable {w:World}
theorem plainKey_any (l:Ln) (hl:l.length<=140737488351232) (hT:Tb w) :
  Calls Tryz.prog 102 #[.string (mk l)] w fun e w'=>e=.returned (lfV (knd l) (if knd l=1 then []else l) [])/\Below w.heap.size w w':=by
 have hb0:=below_alloc w (.cells zT 24)
 have HR:Hid (Calls Tryz.prog 44 #[.string (mk l)] (w.alloc (.cells zT 24)) fun e w'=>e=.returned (.int .i64 (knd l))/\Bx w' w.heap.size zT 24/\Hid (Below w.heap.size w w')) :=
  (resolve_any l _ (by omega) (hT.later hb0).1).mono (fun e w' h=>⟨h.1,(Bx.new w zT 24).later h.2,hb0.trans (h.2.mono (by simp))⟩)
 have hk:=knd_bd l;generalize knd l=k at *;clear hT hb0;obtain⟨W,hW⟩:∃ W,w.alloc (.cells zT 24)=W:=⟨_,rfl⟩;rw[hW]at HR;have hW':w.alloc (.cells #[.int .i64 0,.string ⟨#[]⟩,.string ⟨#[]⟩,.slice none 0 0] 24)=W:=hW;clear hW;by_cases e1:k=1
 ·subst e1;go_enter Tryz.func102,Tryz.ntmps102;go_wp2_with fail;refine HR.out.mono ?_;rintro e w3 ⟨rfl,hx,hb⟩;have HF:=hx.fill4 rfl (.int .i64 1) (.string ⟨#[]⟩) (.string ⟨#[]⟩) (.slice none 0 0);have HBF:Hid (Below w.heap.size w (fill4 w3 w.heap.size (.int .i64 1) (.string ⟨#[]⟩) (.string ⟨#[]⟩) (.slice none 0 0))):=below_fill4 hb.out (Nat.le_refl _) _ _ _ _;have c0:=hx.cell 0;have c1:=hx.cell 1;have c2:=hx.cell 2;have c3:=hx.cell 3;have z0:=hx.fz 0;have z1:=hx.fz 1;have z2:=hx.fz 2;have z3:=hx.fz 3;simp only[zT]at c0 c1 c2 c3;clear hx;go_wp2;change bodyPost _ _ _ _ _ (fill4 w3 w.heap.size (.int .i64 1) (.string ⟨#[]⟩) (.string ⟨#[]⟩) (.slice none 0 0));generalize fill4 w3 w.heap.size (.int .i64 1) (.string ⟨#[]⟩) (.string ⟨#[]⟩) (.slice none 0 0)=WF at HF HBF |-;have j0:=HF.cell 0;have j1:=HF.cell 1;have j2:=HF.cell 2;have j3:=HF.cell 3;refine bodyPost_ret (v:=.agg #[.int .i64 1,.string ⟨#[]⟩,.string ⟨#[]⟩,.slice none 0 0]) (by simp[results,Tryz.results102,go_sem,j0,j1,j2,j3]) rfl ?_;exact⟨rfl,HBF.out⟩
 ·have hke:(k==1)=false:=by simpa using e1
  go_enter Tryz.func102,Tryz.ntmps102;go_wp2_with fail;refine HR.out.mono ?_;rintro e w3 ⟨rfl,hx,hb⟩;have HF:=hx.fill4 rfl (.int .i64 k) (.string (mk l)) (.string ⟨#[]⟩) (.slice none 0 0);have HBF:Hid (Below w.heap.size w (fill4 w3 w.heap.size (.int .i64 k) (.string (mk l)) (.string ⟨#[]⟩) (.slice none 0 0))):=below_fill4 hb.out (Nat.le_refl _) _ _ _ _;have c0:=hx.cell 0;have c1:=hx.cell 1;have c2:=hx.cell 2;have c3:=hx.cell 3;have z0:=hx.fz 0;have z1:=hx.fz 1;have z2:=hx.fz 2;have z3:=hx.fz 3;simp only[zT]at c0 c1 c2 c3;clear hx;go_wp2;change bodyPost _ _ _ _ _ (fill4 w3 w.heap.size (.int .i64 k) (.string (mk l)) (.string ⟨#[]⟩) (.slice none 0 0));generalize fill4 w3 w.heap.size (.int .i64 k) (.string (mk l)) (.string ⟨#[]⟩) (.slice none 0 0)=WF at HF HBF |-;have j0:=HF.cell 0;have j1:=HF.cell 1;have j2:=HF.cell 2;have j3:=HF.cell 3;refine bodyPost_ret (v:=.agg #[.int .i64 k,.string (mk l),.string ⟨#[]⟩,.slice none 0 0]) (by simp[results,Tryz.results102,go_sem,j0,j1,j2,j3]) rfl ?_;exact⟨rfl,HBF.out⟩
def ckT (l:Ln):Tr:=if (Quo.rd l).2.2.1=0 then ⟨4,(Quo.rd l).1,[],[]⟩else if isP (cutT l false) false=true then ⟨knd (cutT l false),if knd (cutT l false)=1 then []else cutT l false,[],[]⟩else tr0
def ckR (l:Ln):Ln:=if (Quo.rd l).2.2.1=0 then gaps (l.drop (Quo.rd l).2.1)else if isP (cutT l false) false=true then l.drop (fin l false)else []
def ckB (l:Ln):Bool:=if (Quo.rd l).2.2.1=0 then true else isP (cutT l false) false
theorem cutKey_any (l:Ln) (hl:l.length<=140737488351232) (hT:Tb w):Calls Tryz.prog 76 #[.string (mk l)] w fun e w'=>e=.returned (.tuple #[lfV (ckT l).kind (ckT l).text [],.string (mk (ckR l)),.bool (ckB l)])/\Below w.heap.size w w':=by
 have hsz:=mk_size l;have hb0:=below_alloc w (.cells zT 24);have hx0:=Bx.new w zT 24;by_cases hq:(Quo.rd l).2.2.1=0
 ·have HRD:Hid (Calls Tryz.prog 100 #[.string (mk l)] (w.alloc (.cells zT 24)) fun e w'=>e=.returned (.tuple #[.string (mk (Quo.rd l).1),.int .i64 ((Quo.rd l).2.1:Int),.agg #[.int .i64 0,.int .i64 ((Quo.rd l).2.2.2:Int)]])/\Hid (Bx w' w.heap.size zT 24/\Below w.heap.size w w')):=by
   have:=Quo.read_any l (w.alloc (.cells zT 24)) hl (hT.later hb0).2;unfold Quo.rdV at this;rw[hq]at this;exact this.mono (fun e w' g=>⟨g.1,hx0.later g.2,hb0.trans (g.2.mono hb0.size)⟩)
  have hm:=(Quo.rd_means l hq).2.2;have HV:Hid ((ckT l).kind=4/\(ckT l).text=(Quo.rd l).1/\ckR l=gaps (l.drop (Quo.rd l).2.1)/\ckB l=true):=by unfold ckT ckR ckB;rw[if_pos hq,if_pos hq,if_pos hq];exact⟨rfl,rfl,rfl,rfl⟩
  have HWB:Hid (∀ w0,Calls Tryz.prog 49 #[.string (mk (l.drop (Quo.rd l).2.1))] w0 fun e w'=>e=.returned (.string (mk (gaps (l.drop (Quo.rd l).2.1))))/\w0=w'):=fun w0=>withoutBlanks_any _ w0 (by rw[List.length_drop];omega)
  have hext:(mk l).extract (Quo.rd l).2.1 l.length=mk (l.drop (Quo.rd l).2.1):=by rw[mk_ext];congr 1;rw[List.take_of_length_le (by simp)]
  rw[HV.out.1,HV.out.2.1,HV.out.2.2.1,HV.out.2.2.2];clear HV hT hb0 hx0 hq;generalize gaps (l.drop (Quo.rd l).2.1)=g at *;generalize mk (l.drop (Quo.rd l).2.1)=d at *;generalize (Quo.rd l).1=t at *;generalize (Quo.rd l).2.1=n at *;generalize (Quo.rd l).2.2.2=z at *;obtain⟨W,hW⟩:∃ W,w.alloc (.cells zT 24)=W:=⟨_,rfl⟩;rw[hW]at HRD;have hW':w.alloc (.cells #[.int .i64 0,.string ⟨#[]⟩,.string ⟨#[]⟩,.slice none 0 0] 24)=W:=hW;clear hW;go_enter Tryz.func76,Tryz.ntmps76;go_wp2_with fail;refine HRD.out.mono ?_;rintro e w3 ⟨rfl,H3⟩;obtain⟨K0,HK⟩:∃ K0,Hid (K0=w.heap.size):=⟨_,rfl⟩
  have H4:Hid (Bx (w3.alloc (.cells #[.int .i64 0,.int .i64 (z:Int)] 33)) K0 zT 24/\Below w.heap.size w (w3.alloc (.cells #[.int .i64 0,.int .i64 (z:Int)] 33))):=by
   have b:=below_alloc w3 (.cells #[.int .i64 0,.int .i64 (z:Int)] 33);rw[HK.out];exact⟨H3.out.1.later b,H3.out.2.trans (b.mono H3.out.2.size)⟩
  go_wp2_with fail;generalize w3.alloc (.cells #[.int .i64 0,.int .i64 (z:Int)] 33)=w4 at H4 |-;rw[<-HK.out];refine(HWB.out _).mono ?_;rintro e w' ⟨rfl,rfl⟩;have hx4:Bx w4 K0 zT 24:=H4.out.1;have c0:=hx4.cell 0;have c1:=hx4.cell 1;have c2:=hx4.cell 2;have c3:=hx4.cell 3;have z0:=hx4.fz 0;have z1:=hx4.fz 1;have z2:=hx4.fz 2;have z3:=hx4.fz 3;simp only[zT]at c0 c1 c2 c3;have HF:=hx4.fill4 rfl (.int .i64 4) (.string (mk t)) (.string ⟨#[]⟩) (.slice none 0 0);have HBF:Hid (Below w.heap.size w (fill4 w4 K0 (.int .i64 4) (.string (mk t)) (.string ⟨#[]⟩) (.slice none 0 0))):=below_fill4 H4.out.2 (Nat.le_of_eq HK.out.symm) _ _ _ _;clear hx4 H4;go_wp2;change bodyPost _ _ _ _ _ (fill4 w4 K0 (.int .i64 4) (.string (mk t)) (.string ⟨#[]⟩) (.slice none 0 0));generalize fill4 w4 K0 (.int .i64 4) (.string (mk t)) (.string ⟨#[]⟩) (.slice none 0 0)=WF at HF HBF |-;have j0:=HF.cell 0;have j1:=HF.cell 1;have j2:=HF.cell 2;have j3:=HF.cell 3;simp at j0 j1 j2 j3;exact bodyPost_ret (v:=.tuple #[.agg #[.int .i64 4,.string (mk t),.string ⟨#[]⟩,.slice none 0 0],.string (mk g),.bool true]) (by simp[results,Tryz.results76,go_sem,j0,j1,j2,j3]) rfl ⟨rfl,HBF.out⟩
 ·have HRD:Hid (Calls Tryz.prog 100 #[.string (mk l)] (w.alloc (.cells zT 24)) fun e w'=>e=.returned (.tuple #[.string (mk (Quo.rd l).1),.int .i64 ((Quo.rd l).2.1:Int),.agg #[.int .i64 ((Quo.rd l).2.2.1:Int),.int .i64 ((Quo.rd l).2.2.2:Int)]])/\Hid (Bx w' w.heap.size zT 24/\Below w.heap.size w w')) :=
   (Quo.read_any l (w.alloc (.cells zT 24)) hl (hT.later hb0).2).mono (fun e w' g=>⟨g.1,hx0.later g.2,hb0.trans (g.2.mono hb0.size)⟩)
  have hcl:=cutT_len l false;have hfl:=fin_le l false;have HCU:Hid (∀ w0,Calls Tryz.prog 101 #[.string (mk l),.bool false] w0 fun e w'=>e=.returned (.tuple #[.string (mk (cutT l false)),.int .i64 (fin l false:Int)])/\Hid (Below w0.heap.size w0 w')):=fun w0=>cut_any l false w0 (by omega)
  have HIS:Hid (∀ w0,Calls Tryz.prog 43 #[.string (mk (cutT l false)),.bool false] w0 fun e w'=>e=.returned (.bool (isP (cutT l false) false))/\Hid (Below w0.heap.size w0 w')):=fun w0=>is_any _ false w0 (by omega)
  have HPK:Hid (∀ w0,Below w.heap.size w w0->Calls Tryz.prog 102 #[.string (mk (cutT l false))] w0 fun e w'=>e=.returned (lfV (knd (cutT l false)) (if knd (cutT l false)=1 then []else cutT l false) [])/\Hid (Below w0.heap.size w0 w')):=fun w0 b=>plainKey_any _ (by omega) (hT.later b)
  have hqe:(((Quo.rd l).2.2.1:Int)==0)=false:=by simpa using hq
  have hext:(mk l).extract (fin l false) l.length=mk (l.drop (fin l false)):=by rw[mk_ext];congr 1;rw[List.take_of_length_le (by simp)]
  obtain⟨W,hW⟩:∃ W,w.alloc (.cells zT 24)=W:=⟨_,rfl⟩;rw[hW]at HRD;have hW':w.alloc (.cells #[.int .i64 0,.string ⟨#[]⟩,.string ⟨#[]⟩,.slice none 0 0] 24)=W:=hW;have HQ:Hid ((Quo.rd l).2.2.1≠0):=hq;clear hW hT hb0 hx0 hq;cases hi:isP (cutT l false) false
  ·have HV:Hid (ckT l=tr0/\ckR l=[]/\ckB l=false):=by unfold ckT ckR ckB;rw[if_neg HQ.out,if_neg HQ.out,if_neg HQ.out,hi];exact⟨rfl,rfl,rfl⟩
   rw[HV.out.1,HV.out.2.1,HV.out.2.2];rw[hi]at HIS;clear HV hi HPK hext;generalize (Quo.rd l).2.2.1=q1 at *;generalize (Quo.rd l).2.2.2=z at *;generalize (Quo.rd l).1=t at *;generalize (Quo.rd l).2.1=n at *;generalize cutT l false=c at *;generalize fin l false=f at *;go_enter Tryz.func76,Tryz.ntmps76;go_wp2_with fail;refine HRD.out.mono ?_;rintro e w3 ⟨rfl,H3⟩;obtain⟨K0,HK⟩:∃ K0,Hid (K0=w.heap.size):=⟨_,rfl⟩
   have H4:Hid (Bx (w3.alloc (.cells #[.int .i64 (q1:Int),.int .i64 (z:Int)] 33)) K0 zT 24/\Below w.heap.size w (w3.alloc (.cells #[.int .i64 (q1:Int),.int .i64 (z:Int)] 33))):=by
    have b:=below_alloc w3 (.cells #[.int .i64 (q1:Int),.int .i64 (z:Int)] 33);rw[HK.out];exact⟨H3.out.1.later b,H3.out.2.trans (b.mono H3.out.2.size)⟩
   go_wp2_with fail;generalize w3.alloc (.cells #[.int .i64 (q1:Int),.int .i64 (z:Int)] 33)=w5 at H4 |-;rw[<-HK.out];refine(HCU.out _).mono ?_;rintro e w6 ⟨rfl,H6⟩;go_wp2_with fail;refine(HIS.out _).mono ?_;rintro e w4 ⟨rfl,H7⟩
   replace H4:Hid (Bx w4 K0 zT 24/\Below w.heap.size w w4):=by
    have b:=H6.out.trans (H7.out.mono H6.out.size);exact⟨H4.out.1.later b,H4.out.2.trans (b.mono H4.out.2.size)⟩
   have hx4:Bx w4 K0 zT 24:=H4.out.1;have c0:=hx4.cell 0;have c1:=hx4.cell 1;have c2:=hx4.cell 2;have c3:=hx4.cell 3;have z0:=hx4.fz 0;have z1:=hx4.fz 1;have z2:=hx4.fz 2;have z3:=hx4.fz 3;simp only[zT]at c0 c1 c2 c3;have HF:=hx4.fill4 rfl (.int .i64 0) (.string ⟨#[]⟩) (.string ⟨#[]⟩) (.slice none 0 0);have HBF:Hid (Below w.heap.size w (fill4 w4 K0 (.int .i64 0) (.string ⟨#[]⟩) (.string ⟨#[]⟩) (.slice none 0 0))):=below_fill4 H4.out.2 (Nat.le_of_eq HK.out.symm) _ _ _ _;clear hx4 H4;go_wp2;change bodyPost _ _ _ _ _ (fill4 w4 K0 (.int .i64 0) (.string ⟨#[]⟩) (.string ⟨#[]⟩) (.slice none 0 0));generalize fill4 w4 K0 (.int .i64 0) (.string ⟨#[]⟩) (.string ⟨#[]⟩) (.slice none 0 0)=WF at HF HBF |-;have j0:=HF.cell 0;have j1:=HF.cell 1;have j2:=HF.cell 2;have j3:=HF.cell 3;simp at j0 j1 j2 j3;exact bodyPost_ret (v:=.tuple #[.agg #[.int .i64 0,.string ⟨#[]⟩,.string ⟨#[]⟩,.slice none 0 0],.string (⟨#[]⟩),.bool false]) (by simp[results,Tryz.results76,go_sem,j0,j1,j2,j3]) rfl ⟨rfl,HBF.out⟩
  ·have HV:Hid ((ckT l).kind=knd (cutT l false)/\(ckT l).text=(if knd (cutT l false)=1 then []else cutT l false)/\ckR l=l.drop (fin l false)/\ckB l=true):=by unfold ckT ckR ckB;rw[if_neg HQ.out,if_neg HQ.out,if_neg HQ.out,hi];exact⟨rfl,rfl,rfl,rfl⟩
   rw[HV.out.1,HV.out.2.1,HV.out.2.2.1,HV.out.2.2.2];rw[hi]at HIS;clear HV hi;generalize (if knd (cutT l false)=1 then []else cutT l false)=kt at *;generalize knd (cutT l false)=kk at *;generalize mk (l.drop (fin l false))=d at *;generalize (Quo.rd l).2.2.1=q1 at *;generalize (Quo.rd l).2.2.2=z at *;generalize (Quo.rd l).1=t at *;generalize (Quo.rd l).2.1=n at *;generalize cutT l false=c at *;generalize fin l false=f at *;go_enter Tryz.func76,Tryz.ntmps76;go_wp2_with fail;refine HRD.out.mono ?_;rintro e w3 ⟨rfl,H3⟩;obtain⟨K0,HK⟩:∃ K0,Hid (K0=w.heap.size):=⟨_,rfl⟩
   have H4:Hid (Bx (w3.alloc (.cells #[.int .i64 (q1:Int),.int .i64 (z:Int)] 33)) K0 zT 24/\Below w.heap.size w (w3.alloc (.cells #[.int .i64 (q1:Int),.int .i64 (z:Int)] 33))):=by
    have b:=below_alloc w3 (.cells #[.int .i64 (q1:Int),.int .i64 (z:Int)] 33);rw[HK.out];exact⟨H3.out.1.later b,H3.out.2.trans (b.mono H3.out.2.size)⟩
   go_wp2_with fail;generalize w3.alloc (.cells #[.int .i64 (q1:Int),.int .i64 (z:Int)] 33)=w5 at H4 |-;rw[<-HK.out];refine(HCU.out _).mono ?_;rintro e w6 ⟨rfl,H6⟩;go_wp2_with fail;refine(HIS.out _).mono ?_;rintro e w7 ⟨rfl,H7⟩
   have B7:Hid (Below w.heap.size w w7):=by
    have b:=H6.out.trans (H7.out.mono H6.out.size);exact H4.out.2.trans (b.mono H4.out.2.size)
   have X7:Hid (Bx w7 K0 zT 24):=by
    have b:=H6.out.trans (H7.out.mono H6.out.size);exact H4.out.1.later b
   have HP2:Hid (∀ m,Calls Tryz.prog 102 #[.string (mk c)] (w7.drewN m) fun e w'=>e=.returned (.agg #[.int .i64 kk,.string (mk kt),.string ⟨#[]⟩,.slice none 0 0])/\w'.cell? ⟨K0,0,none⟩=some (.int .i64 0)/\w'.cell? ⟨K0,1,none⟩=some (.string ⟨#[]⟩)/\w'.cell? ⟨K0,2,none⟩=some (.string ⟨#[]⟩)/\w'.cell? ⟨K0,3,none⟩=some (.slice none 0 0) /\
     w'.frozen? ⟨K0,0,none⟩=false/\w'.frozen? ⟨K0,1,none⟩=false/\w'.frozen? ⟨K0,2,none⟩=false/\w'.frozen? ⟨K0,3,none⟩=false/\Hid (Bx w' K0 zT 24/\Below w.heap.size w w')):=fun m=>by
    have b:=below_drewN B7.out m;have hx:=X7.out.drew m;refine(HPK.out _ b).mono ?_;rintro e w' ⟨rfl,h⟩;have hx':=hx.later h.out;exact⟨rfl,hx'.cell 0,hx'.cell 1,hx'.cell 2,hx'.cell 3,hx'.fz 0,hx'.fz 1,hx'.fz 2,hx'.fz 3,hx',b.trans (h.out.mono b.size)⟩
   clear HPK X7 H4;go_wp2_with fail;go_region_with (go_at_call 102;refine(HP2.out _).mono ?_;rintro e w4 ⟨rfl,c0,c1,c2,c3,z0,z1,z2,z3,H4⟩)
   all_goals
    have HF:=H4.out.1.fill4 rfl (.int .i64 kk) (.string (mk kt)) (.string ⟨#[]⟩) (.slice none 0 0);have HBF:Hid (Below w.heap.size w (fill4 w4 K0 (.int .i64 kk) (.string (mk kt)) (.string ⟨#[]⟩) (.slice none 0 0))):=below_fill4 H4.out.2 (Nat.le_of_eq HK.out.symm) _ _ _ _;go_wp2;change bodyPost _ _ _ _ _ (fill4 w4 K0 (.int .i64 kk) (.string (mk kt)) (.string ⟨#[]⟩) (.slice none 0 0));generalize fill4 w4 K0 (.int .i64 kk) (.string (mk kt)) (.string ⟨#[]⟩) (.slice none 0 0)=WF at HF HBF |-;have j0:=HF.cell 0;have j1:=HF.cell 1;have j2:=HF.cell 2;have j3:=HF.cell 3;simp at j0 j1 j2 j3;exact bodyPost_ret (v:=.tuple #[.agg #[.int .i64 kk,.string (mk kt),.string ⟨#[]⟩,.slice none 0 0],.string d,.bool true]) (by simp[results,Tryz.results76,go_sem,j0,j1,j2,j3]) rfl ⟨rfl,HBF.out⟩
def isEn (l:Ln):Bool:=ckB l && hd (ckR l)==58 && eMk ((ckR l).drop 1)
def enT (l:Ln):Tr:=if isEn l=true then ckT l else tr0
def enR (l:Ln):Ln:=if isEn l=true then gaps ((ckR l).drop 1)else []
def enN (l:Ln):Nat:=if isEn l=true then l.length-(gaps ((ckR l).drop 1)).length else 0
theorem ckR_len (l:Ln):(ckR l).length<=l.length:=by
 unfold ckR;split
 ·have:=gaps_len (l.drop (Quo.rd l).2.1);rw[List.length_drop]at this;omega
 split
 ·rw[List.length_drop];omega
 ·simp
theorem entry0_any (l:Ln) (hl:l.length<=140737488351232) (hT:Tb w):Calls Tryz.prog 56 #[.string (mk l)] w fun e w'=>e=.returned (.tuple #[lfV (enT l).kind (enT l).text [],.string (mk (enR l)),.int .i64 (enN l:Int),.bool (isEn l)])/\Below w.heap.size w w':=by
 have hsz:=mk_size l;have hb0:=below_alloc w (.cells zT 24);have hx0:=Bx.new w zT 24
 have HCK:Hid (Calls Tryz.prog 76 #[.string (mk l)] (w.alloc (.cells zT 24)) fun e w'=>e=.returned (.tuple #[.agg #[.int .i64 (ckT l).kind,.string (mk (ckT l).text),.string ⟨#[]⟩,.slice none 0 0],.string (mk (ckR l)),.bool (ckB l)])/\Hid (Bx w' w.heap.size zT 24/\Below w.heap.size w w')) :=
  (cutKey_any l hl (hT.later hb0)).mono (fun e w' g=>⟨g.1,hx0.later g.2,hb0.trans (g.2.mono hb0.size)⟩)
 have hrl:=ckR_len l;have HC:Hid (∀ w0,Calls Tryz.prog 72 #[.string (mk (ckR l)),.string ⟨#[58]⟩] w0 fun e w'=>e=.returned (.tuple #[.string (mk (if hd (ckR l)=58 then (ckR l).drop 1 else ckR l)),.bool (hd (ckR l)==58)])/\w0=w'):=fun w0=>cutPrefix_any _ 58 w0 (by omega) (by decide)
 have hdl:((ckR l).drop 1).length<=l.length:=by rw[List.length_drop];omega
 have HE:Hid (∀ w0,Calls Tryz.prog 75 #[.string (mk ((ckR l).drop 1))] w0 fun e w'=>e=.returned (.bool (eMk ((ckR l).drop 1)))/\w0=w'):=fun w0=>endsMark_any _ w0 (by omega)
 have HW:Hid (∀ w0,Calls Tryz.prog 49 #[.string (mk ((ckR l).drop 1))] w0 fun e w'=>e=.returned (.string (mk (gaps ((ckR l).drop 1))))/\w0=w'):=fun w0=>withoutBlanks_any _ w0 (by omega)
 have hgl:=gaps_len ((ckR l).drop 1);have hgz:=mk_size (gaps ((ckR l).drop 1));have HI:Hid (isEn l=(ckB l && hd (ckR l)==58 && eMk ((ckR l).drop 1))):=rfl;have HN:Hid (isEn l=false->(enT l).kind=0/\(enT l).text=[]/\enR l=[]/\enN l=0):=fun h=>by unfold enT enR enN;rw[h];exact⟨rfl,rfl,rfl,rfl⟩
 have HY:Hid (isEn l=true->(enT l).kind=(ckT l).kind/\(enT l).text=(ckT l).text/\enR l=gaps ((ckR l).drop 1)/\((enN l:Nat):Int)=(l.length:Int)-((gaps ((ckR l).drop 1)).length:Int)):=fun h=>by unfold enT enR enN;rw[h];exact⟨rfl,rfl,rfl,by simp only[if_true];omega⟩
 obtain⟨W,hW⟩:∃ W,w.alloc (.cells zT 24)=W:=⟨_,rfl⟩;rw[hW]at HCK;have hW':w.alloc (.cells #[.int .i64 0,.string ⟨#[]⟩,.string ⟨#[]⟩,.slice none 0 0] 24)=W:=hW;clear hW hT hb0 hx0;generalize (ckT l).kind=ck at *;generalize (ckT l).text=ct at *;generalize gaps ((ckR l).drop 1)=g at *;cases hb:ckB l
 ·rw[hb]at HCK HI;have hf:isEn l=false:=HI.out;rw[(HN.out hf).1,(HN.out hf).2.1,(HN.out hf).2.2.1,(HN.out hf).2.2.2,hf];clear HN HY HI hb hf HC HE HW;generalize ckR l=r at *;go_enter Tryz.func56,Tryz.ntmps56;go_wp2_with fail;refine HCK.out.mono ?_;rintro e w3 ⟨rfl,H3⟩;obtain⟨K0,HK⟩:∃ K0,Hid (K0=w.heap.size):=⟨_,rfl⟩
  have H4:Hid (Bx (w3.alloc (.cells #[.int .i64 ck,.string (mk ct),.string ⟨#[]⟩,.slice none 0 0] 24)) K0 zT 24/\Below w.heap.size w (w3.alloc (.cells #[.int .i64 ck,.string (mk ct),.string ⟨#[]⟩,.slice none 0 0] 24))):=by
   have b:=below_alloc w3 (.cells #[.int .i64 ck,.string (mk ct),.string ⟨#[]⟩,.slice none 0 0] 24);rw[HK.out];exact⟨H3.out.1.later b,H3.out.2.trans (b.mono H3.out.2.size)⟩
  have kx:=Bx.new w3 #[.int .i64 ck,.string (mk ct),.string ⟨#[]⟩,.slice none 0 0] 24;obtain⟨k0,k1,k2,k3⟩:=kx.c4;have HKK:Hid (w3.heap.size≠K0):=by have:=H3.out.1.lt;rw[HK.out];show _≠_;omega
  clear kx;go_upto_region 2 with fail
  generalize w3.alloc (.cells #[.int .i64 ck,.string (mk ct),.string ⟨#[]⟩,.slice none 0 0] 24)=w4 at H4 k0 k1 k2 k3 |-;rw[<-HK.out];generalize w3.heap.size=K1 at *;have hKK:=HKK.out;have hx4:Bx w4 K0 zT 24:=H4.out.1;have c0:=hx4.cell 0;have c1:=hx4.cell 1;have c2:=hx4.cell 2;have c3:=hx4.cell 3;have z0:=hx4.fz 0;have z1:=hx4.fz 1;have z2:=hx4.fz 2;have z3:=hx4.fz 3;simp only[zT]at c0 c1 c2 c3;have HF:=hx4.fill4 rfl (.int .i64 0) (.string ⟨#[]⟩) (.string ⟨#[]⟩) (.slice none 0 0);have HBF:Hid (Below w.heap.size w (fill4 w4 K0 (.int .i64 0) (.string ⟨#[]⟩) (.string ⟨#[]⟩) (.slice none 0 0))):=below_fill4 H4.out.2 (Nat.le_of_eq HK.out.symm) _ _ _ _;clear hx4 H4;go_wp2;change bodyPost _ _ _ _ _ (fill4 w4 K0 (.int .i64 0) (.string ⟨#[]⟩) (.string ⟨#[]⟩) (.slice none 0 0));generalize fill4 w4 K0 (.int .i64 0) (.string ⟨#[]⟩) (.string ⟨#[]⟩) (.slice none 0 0)=WF at HF HBF |-;have j0:=HF.cell 0;have j1:=HF.cell 1;have j2:=HF.cell 2;have j3:=HF.cell 3;simp at j0 j1 j2 j3;exact bodyPost_ret (v:=.tuple #[.agg #[.int .i64 0,.string ⟨#[]⟩,.string ⟨#[]⟩,.slice none 0 0],.string (⟨#[]⟩),.int .i64 (0),.bool false]) (by simp[results,Tryz.results56,go_sem,j0,j1,j2,j3]) rfl ⟨rfl,HBF.out⟩
 rw[hb]at HCK HI;by_cases h58:hd (ckR l)=58
 ·have q58:(hd (ckR l)==58)=true:=by simpa using h58
  rw[if_pos h58,q58]at HC;rw[q58]at HI;cases hm:eMk ((ckR l).drop 1)
  ·rw[hm]at HE HI;have hf:isEn l=false:=HI.out;rw[(HN.out hf).1,(HN.out hf).2.1,(HN.out hf).2.2.1,(HN.out hf).2.2.2,hf];clear HN HY HI hb hf HW h58 q58 hm;generalize (ckR l).drop 1=d at *;generalize ckR l=r at *;go_enter Tryz.func56,Tryz.ntmps56;go_wp2_with fail;refine HCK.out.mono ?_;rintro e w3 ⟨rfl,H3⟩;obtain⟨K0,HK⟩:∃ K0,Hid (K0=w.heap.size):=⟨_,rfl⟩
   have H4:Hid (Bx (w3.alloc (.cells #[.int .i64 ck,.string (mk ct),.string ⟨#[]⟩,.slice none 0 0] 24)) K0 zT 24/\Below w.heap.size w (w3.alloc (.cells #[.int .i64 ck,.string (mk ct),.string ⟨#[]⟩,.slice none 0 0] 24))):=by
    have b:=below_alloc w3 (.cells #[.int .i64 ck,.string (mk ct),.string ⟨#[]⟩,.slice none 0 0] 24);rw[HK.out];exact⟨H3.out.1.later b,H3.out.2.trans (b.mono H3.out.2.size)⟩
   have kx:=Bx.new w3 #[.int .i64 ck,.string (mk ct),.string ⟨#[]⟩,.slice none 0 0] 24;obtain⟨k0,k1,k2,k3⟩:=kx.c4;have HKK:Hid (w3.heap.size≠K0):=by have:=H3.out.1.lt;rw[HK.out];show _≠_;omega
   clear kx;go_upto_region 2 with fail
   generalize w3.alloc (.cells #[.int .i64 ck,.string (mk ct),.string ⟨#[]⟩,.slice none 0 0] 24)=w4 at H4 k0 k1 k2 k3 |-;rw[<-HK.out];generalize w3.heap.size=K1 at *;have hKK:=HKK.out;go_wp2_with fail;refine(HC.out _).mono ?_;rintro e w' ⟨rfl,rfl⟩;go_wp2_with fail;refine(HE.out _).mono ?_;rintro e w' ⟨rfl,rfl⟩;have hx4:Bx w4 K0 zT 24:=H4.out.1;have c0:=hx4.cell 0;have c1:=hx4.cell 1;have c2:=hx4.cell 2;have c3:=hx4.cell 3;have z0:=hx4.fz 0;have z1:=hx4.fz 1;have z2:=hx4.fz 2;have z3:=hx4.fz 3;simp only[zT]at c0 c1 c2 c3;have HF:=hx4.fill4 rfl (.int .i64 0) (.string ⟨#[]⟩) (.string ⟨#[]⟩) (.slice none 0 0);have HBF:Hid (Below w.heap.size w (fill4 w4 K0 (.int .i64 0) (.string ⟨#[]⟩) (.string ⟨#[]⟩) (.slice none 0 0))):=below_fill4 H4.out.2 (Nat.le_of_eq HK.out.symm) _ _ _ _;clear hx4 H4;go_wp2;change bodyPost _ _ _ _ _ (fill4 w4 K0 (.int .i64 0) (.string ⟨#[]⟩) (.string ⟨#[]⟩) (.slice none 0 0));generalize fill4 w4 K0 (.int .i64 0) (.string ⟨#[]⟩) (.string ⟨#[]⟩) (.slice none 0 0)=WF at HF HBF |-;have j0:=HF.cell 0;have j1:=HF.cell 1;have j2:=HF.cell 2;have j3:=HF.cell 3;simp at j0 j1 j2 j3;exact bodyPost_ret (v:=.tuple #[.agg #[.int .i64 0,.string ⟨#[]⟩,.string ⟨#[]⟩,.slice none 0 0],.string (⟨#[]⟩),.int .i64 (0),.bool false]) (by simp[results,Tryz.results56,go_sem,j0,j1,j2,j3]) rfl ⟨rfl,HBF.out⟩
  ·rw[hm]at HE HI;have hf:isEn l=true:=HI.out;rw[(HY.out hf).1,(HY.out hf).2.1,(HY.out hf).2.2.1,(HY.out hf).2.2.2,hf];clear HN HY HI hb hf h58 q58 hm;generalize (ckR l).drop 1=d at *;generalize ckR l=r at *;go_enter Tryz.func56,Tryz.ntmps56;go_wp2_with fail;refine HCK.out.mono ?_;rintro e w3 ⟨rfl,H3⟩;obtain⟨K0,HK⟩:∃ K0,Hid (K0=w.heap.size):=⟨_,rfl⟩
   have H4:Hid (Bx (w3.alloc (.cells #[.int .i64 ck,.string (mk ct),.string ⟨#[]⟩,.slice none 0 0] 24)) K0 zT 24/\Below w.heap.size w (w3.alloc (.cells #[.int .i64 ck,.string (mk ct),.string ⟨#[]⟩,.slice none 0 0] 24))):=by
    have b:=below_alloc w3 (.cells #[.int .i64 ck,.string (mk ct),.string ⟨#[]⟩,.slice none 0 0] 24);rw[HK.out];exact⟨H3.out.1.later b,H3.out.2.trans (b.mono H3.out.2.size)⟩
   have kx:=Bx.new w3 #[.int .i64 ck,.string (mk ct),.string ⟨#[]⟩,.slice none 0 0] 24;obtain⟨k0,k1,k2,k3⟩:=kx.c4;have HKK:Hid (w3.heap.size≠K0):=by have:=H3.out.1.lt;rw[HK.out];show _≠_;omega
   clear kx;go_upto_region 2 with fail
   generalize w3.alloc (.cells #[.int .i64 ck,.string (mk ct),.string ⟨#[]⟩,.slice none 0 0] 24)=w4 at H4 k0 k1 k2 k3 |-;rw[<-HK.out];generalize w3.heap.size=K1 at *;have hKK:=HKK.out;go_wp2_with fail;refine(HC.out _).mono ?_;rintro e w' ⟨rfl,rfl⟩;go_wp2_with fail;refine(HE.out _).mono ?_;rintro e w' ⟨rfl,rfl⟩;go_wp2_with fail;refine(HW.out _).mono ?_;rintro e w' ⟨rfl,rfl⟩;have hx4:Bx w4 K0 zT 24:=H4.out.1;have c0:=hx4.cell 0;have c1:=hx4.cell 1;have c2:=hx4.cell 2;have c3:=hx4.cell 3;have z0:=hx4.fz 0;have z1:=hx4.fz 1;have z2:=hx4.fz 2;have z3:=hx4.fz 3;simp only[zT]at c0 c1 c2 c3;have HF:=hx4.fill4 rfl (.int .i64 ck) (.string (mk ct)) (.string ⟨#[]⟩) (.slice none 0 0);have HBF:Hid (Below w.heap.size w (fill4 w4 K0 (.int .i64 ck) (.string (mk ct)) (.string ⟨#[]⟩) (.slice none 0 0))):=below_fill4 H4.out.2 (Nat.le_of_eq HK.out.symm) _ _ _ _;clear hx4 H4;go_wp2;change bodyPost _ _ _ _ _ (fill4 w4 K0 (.int .i64 ck) (.string (mk ct)) (.string ⟨#[]⟩) (.slice none 0 0));generalize fill4 w4 K0 (.int .i64 ck) (.string (mk ct)) (.string ⟨#[]⟩) (.slice none 0 0)=WF at HF HBF |-;have j0:=HF.cell 0;have j1:=HF.cell 1;have j2:=HF.cell 2;have j3:=HF.cell 3;simp at j0 j1 j2 j3;exact bodyPost_ret (v:=.tuple #[.agg #[.int .i64 ck,.string (mk ct),.string ⟨#[]⟩,.slice none 0 0],.string (mk g),.int .i64 ((l.length:Int)-(g.length:Int)),.bool true]) (by simp[results,Tryz.results56,go_sem,j0,j1,j2,j3]) rfl ⟨rfl,HBF.out⟩
 ·have q58:(hd (ckR l)==58)=false:=by simpa using h58
  rw[if_neg h58,q58]at HC;rw[q58]at HI;have hf:isEn l=false:=HI.out;rw[(HN.out hf).1,(HN.out hf).2.1,(HN.out hf).2.2.1,(HN.out hf).2.2.2,hf];clear HN HY HI hb hf HW h58 q58 HE;generalize ckR l=r at *;go_enter Tryz.func56,Tryz.ntmps56;go_wp2_with fail;refine HCK.out.mono ?_;rintro e w3 ⟨rfl,H3⟩;obtain⟨K0,HK⟩:∃ K0,Hid (K0=w.heap.size):=⟨_,rfl⟩
  have H4:Hid (Bx (w3.alloc (.cells #[.int .i64 ck,.string (mk ct),.string ⟨#[]⟩,.slice none 0 0] 24)) K0 zT 24/\Below w.heap.size w (w3.alloc (.cells #[.int .i64 ck,.string (mk ct),.string ⟨#[]⟩,.slice none 0 0] 24))):=by
   have b:=below_alloc w3 (.cells #[.int .i64 ck,.string (mk ct),.string ⟨#[]⟩,.slice none 0 0] 24);rw[HK.out];exact⟨H3.out.1.later b,H3.out.2.trans (b.mono H3.out.2.size)⟩
  have kx:=Bx.new w3 #[.int .i64 ck,.string (mk ct),.string ⟨#[]⟩,.slice none 0 0] 24;obtain⟨k0,k1,k2,k3⟩:=kx.c4;have HKK:Hid (w3.heap.size≠K0):=by have:=H3.out.1.lt;rw[HK.out];show _≠_;omega
  clear kx;go_upto_region 2 with fail
  generalize w3.alloc (.cells #[.int .i64 ck,.string (mk ct),.string ⟨#[]⟩,.slice none 0 0] 24)=w4 at H4 k0 k1 k2 k3 |-;rw[<-HK.out];generalize w3.heap.size=K1 at *;have hKK:=HKK.out;go_wp2_with fail;refine(HC.out _).mono ?_;rintro e w' ⟨rfl,rfl⟩;have hx4:Bx w4 K0 zT 24:=H4.out.1;have c0:=hx4.cell 0;have c1:=hx4.cell 1;have c2:=hx4.cell 2;have c3:=hx4.cell 3;have z0:=hx4.fz 0;have z1:=hx4.fz 1;have z2:=hx4.fz 2;have z3:=hx4.fz 3;simp only[zT]at c0 c1 c2 c3;have HF:=hx4.fill4 rfl (.int .i64 0) (.string ⟨#[]⟩) (.string ⟨#[]⟩) (.slice none 0 0);have HBF:Hid (Below w.heap.size w (fill4 w4 K0 (.int .i64 0) (.string ⟨#[]⟩) (.string ⟨#[]⟩) (.slice none 0 0))):=below_fill4 H4.out.2 (Nat.le_of_eq HK.out.symm) _ _ _ _;clear hx4 H4;go_wp2;change bodyPost _ _ _ _ _ (fill4 w4 K0 (.int .i64 0) (.string ⟨#[]⟩) (.string ⟨#[]⟩) (.slice none 0 0));generalize fill4 w4 K0 (.int .i64 0) (.string ⟨#[]⟩) (.string ⟨#[]⟩) (.slice none 0 0)=WF at HF HBF |-;have j0:=HF.cell 0;have j1:=HF.cell 1;have j2:=HF.cell 2;have j3:=HF.cell 3;simp at j0 j1 j2 j3;exact bodyPost_ret (v:=.tuple #[.agg #[.int .i64 0,.string ⟨#[]⟩,.string ⟨#[]⟩,.slice none 0 0],.string (⟨#[]⟩),.int .i64 (0),.bool false]) (by simp[results,Tryz.results56,go_sem,j0,j1,j2,j3]) rfl ⟨rfl,HBF.out⟩
end Tre
namespace Tre
open Utf Rws Pln Flw
open Go.RowKit
open Blk (Rw RwAt z3 lo rws joinW trm fld headO hdV)
abbrev Tf:=Tr × Int × Int
abbrev Hd:=Rw × Pp
def hds (dp:Bool):Nat->Int->List Rw->List Hd × List Rw × Int × Int
 | 0,_,_=>([],[],0,0)
 | n+1,c,rs=>match cnt rs with
  | []=>([],[],0,0)
  | r::rest=>if r.1<c then ([],[],9,r.2.2)else
   if (!noth (CP ⟨[],0⟩ r.2.1).2 || dp)=true then ([],r::rest,0,0)else
   ((r,(CP ⟨[],0⟩ r.2.1).1)::(hds dp n r.1 rest).1,(hds dp n r.1 rest).2)
def orM (h:Hd) (t:Tr):Tf :=
 if samePp h.2 ⟨[],0⟩=true then (t,0,0)else if orB h.2 t.kind t.anc=true then (tr0,3,h.1.2.2)else if onB h.2 t.kind=true then (tr0,12,h.1.2.2)else (⟨t.kind,t.text,h.2.anc,t.kids⟩,0,0)
def noM (h:Hd):Tf:=if onB h.2 (nuK h.2)=true then (tr0,12,h.1.2.2)else (⟨nuK h.2,[],h.2.anc,[]⟩,0,0)
def bak:List Hd->Tf->Tf
 | [],r=>r
 | h::hs,r=>if r.2.1≠0 then (tr0,r.2)else bak hs (orM h r.1)
def beM (val:Rw->List Rw->Tf) (dp:Bool) (h:Hd) (rs:List Rw):Tf :=
 let q:=hds dp (rs.length+1) h.1.1 rs
 if q.2.2.1≠0 then (tr0,q.2.2)else match q.2.1 with
  | r::rest=>bak (h::q.1).reverse (val r rest)
  | []=>bak (h::q.1).reverse.tail (noM ((h::q.1).reverse.headD h))
def meM (val:Int->Rw->List Rw->Tf) (ar:Int) (r:Rw) (l:Ln) (u:List Rw):Tf :=
 mnM (fun p=>beM (val ar) (decide (ar=64)) (r,p) u) r.1 r.2.2 l u
def itP (val:Int->Rw->List Rw->Tf) (ar:Int) (r:Rw) (u:List Rw):List Tr × Int × Int :=
 if isIt r.2.1=false then ([],3,r.2.2)else
 if isIt (itR r.2.1)=true\/isEn (itR r.2.1)=true then ([(val ar (mvd r.1 (itN r.2.1),itR r.2.1,r.2.2) u).1],(val ar (mvd r.1 (itN r.2.1),itR r.2.1,r.2.2) u).2)else
 ([(meM val ar r (itR r.2.1) u).1],(meM val ar r (itR r.2.1) u).2)
def enP (val:Int->Rw->List Rw->Tf) (ar:Int) (r:Rw) (u:List Rw):List Tr × Int × Int :=
 if isEn r.2.1=false then ([],3,r.2.2)else if 256<(enT r.2.1).text.length then ([],5,r.2.2)else
 ([⟨(enT r.2.1).kind,(enT r.2.1).text,[],[]⟩,(meM val ar r (enR r.2.1) u).1],(meM val ar r (enR r.2.1) u).2)
def kiM (part:Rw->List Rw->List Tr × Int × Int) (c:Int):Nat->Rw->List Rw->List Tr->List Tr × Int × Int
 | 0,_,_,_=>([],0,0)
 | n+1,r,more,acc =>
  if (part r (more.take (dpn more c))).2.1≠0 then ([],(part r (more.take (dpn more c))).2)else match more.drop (dpn more c)with
   | []=>(acc++(part r (more.take (dpn more c))).1,0,0)
   | r'::rest=>if r'.1<c then ([],9,r'.2.2)else kiM part c n r' rest (acc++(part r (more.take (dpn more c))).1)
def vaM:Nat->Int->Rw->List Rw->Tf
 | 0,_,_,_=>(tr0,0,0)
 | n+1,ar,r,more =>
  if ar=64 then (tr0,10,r.2.2)else
  if isIt r.2.1=true then (⟨5,[],[],(kiM (itP (vaM n) (ar+1)) r.1 (more.length+1) r more []).1⟩,(kiM (itP (vaM n) (ar+1)) r.1 (more.length+1) r more []).2)else
  if isEn r.2.1=true then (⟨6,[],[],(kiM (enP (vaM n) (ar+1)) r.1 (more.length+1) r more []).1⟩,(kiM (enP (vaM n) (ar+1)) r.1 (more.length+1) r more []).2)else
  meM (vaM n) ar r r.2.1 more
def msr (rs:List Rw):Nat:=(rs.map fun r=>r.2.1.length+1).sum
theorem msr_cons (r:Rw) (rs:List Rw):msr (r::rs)=r.2.1.length+1+msr rs:=by simp[msr]
theorem msr_app (a b:List Rw):msr (a++b)=msr a+msr b:=by simp[msr]
theorem cnt_len (rs:List Rw):(cnt rs).length<=rs.length:=by
 unfold cnt;exact(List.dropWhile_suffix _).length_le
end Tre
namespace Rws
open Utf
theorem trR_take (p:UInt8->Bool) (l:List UInt8):trR p l=l.take (trR p l).length:=by
 have h:trR p l <+: l:=by
  unfold trR;rw[<-List.reverse_suffix,List.reverse_reverse];exact List.dropWhile_suffix _
 exact(List.prefix_iff_eq_take.1 h)
theorem note_take (l:List UInt8):note l=l.take (note l).length/\(note l).length<=hx true l:=by
 have h1:=trR_take sp (l.take (hx true l));have h2:=trR_len sp (l.take (hx true l));rw[List.length_take]at h2;have h3:(note l).length<=hx true l:=by unfold note;omega
 refine⟨?_,h3⟩;unfold note at h3 |-
 conv=>lhs;rw[h1]
 rw[List.take_take,Nat.min_eq_left h3]
end Rws
namespace Tre
open Utf Rws Pln Flw
open Go.RowKit
open Blk (Rw RwAt z3 headO)
theorem hd_cons (b:UInt8) (r:Ln):hd (b::r)=b:=rfl
theorem gaps_same {s:Ln} (h0:s≠[]) (h:hd s≠32):gaps s=s:=by
 cases s with
 | nil=>rfl
 | cons b r =>
  unfold gaps;rw[List.dropWhile_cons,if_neg];rw[hd_cons]at h;simpa [is32]using h
theorem CP_same {s:Ln} (h0:s≠[]) (h1:hd s≠32) (h2:hd s≠38) (h3:hd s≠33):CP ⟨[],0⟩ s=(⟨[],0⟩,s):=by
 have hg:=gaps_same h0 h1
 have hw:hd (wrd s)=hd s:=by
  cases s with
  | nil=>rfl
  | cons b r =>
   unfold wrd;rw[hd_cons]at h1 |-;rw[List.takeWhile_cons,if_pos (by simpa using h1)];rfl
 rw[CP_end,hg];rw[hg];unfold wth;rw[if_neg (by rw[hw];exact h2),if_pos rfl]
 have ht:tgw (wrd s)=0:=by
  have hne:∀ m:Ln,wrd s≠33::m:=fun m e=>h3 (by rw[<-hw,e];rfl)
  unfold tgw;rw[if_neg (hne _),if_neg (hne _),if_neg (hne _),if_neg (hne _),if_neg (hne _),if_neg (hne _)]
 rw[ht];rfl
theorem noth_no {s:Ln} (h0:s≠[]) (h:hd s≠35):noth s=false:=by
 unfold noth;simp[h0,h]
theorem head_no {s:Ln} (h0:s≠[]) (h1:hd s≠124) (h2:hd s≠62):headO (note s)=none:=by
 cases hq:headO (note s)with
 | none=>rfl
 | some p =>
  obtain⟨f,c⟩:=p;have e:=Blk.mark_head _ f c hq;have e2:=(note_take s).1;rw[<-e]at e2;unfold Blk.mark at e2
  cases s with
  | nil=>exact absurd rfl h0
  | cons b r =>
   rw[hd_cons]at h1 h2;simp only[List.length_cons,List.take_succ_cons,List.cons.injEq]at e2;cases f
   ·exact absurd e2.1.symm h1
   ·exact absurd e2.1.symm h2
end Tre
end Go.Proofs.YtidhpmcmbooaoaaGreatDoor
