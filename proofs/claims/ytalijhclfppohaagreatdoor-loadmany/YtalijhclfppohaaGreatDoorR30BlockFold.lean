/- . -/
import Derived.Test.YtalijhclfppohaaGreatDoorR28BlockLeaf
import Derived.Test.YtalijhclfppohaaGreatDoorR29BlockStep
set_option linter.unusedSimpArgs false
set_option linter.unusedVariables false
set_option maxRecDepth 100000
namespace Go.Proofs.YtalijhclfppohaaGreatDoor
namespace Blk
open Go.RowKit
open Rws (mk mk_data mk_size mk_of mk_ext mk_get mk_inj)
theorem foC_len (g:Bool) (e:Nat) (f:Bool) (x:Ln) (r:List Ln):x.length<=(foC g e f (x::r)).length:=by
 rw[foC];split
 ·rename_i h;rw[h];exact Nat.zero_le _
 ·rw[List.length_append,List.length_append];omega
theorem flat_head (x:Ln) (h:x≠[]):flat x= !(x.head?==some 32):=by
 cases x with
 | nil=>exact absurd rfl h
 | cons b r=>simp[flat];rfl
set_option maxHeartbeats 1000000 in
theorem fold_any (a:Option Addr) (len cap:Nat) (xs:List Ln) (w:World) (h:StrsAt w a len xs) (hl:len<=140737488355327) (hb:(fld xs).length<=140737488355328) :
  Calls Tryz.prog 133 #[.slice a len cap] w fun e w'=>e=.returned (.string (mk (fld xs)))/\Below w.heap.size w w':=by
 have HZ:Hid (StrsAt w a len xs):=h;clear h;go_enter Tryz.func133,Tryz.ntmps133;go_wp2
 go_loopw [4,5,11] (fun ue uf ui wr=>∃ (k e:Nat) (f:Bool) (T:Ln),k<=len/\ui=.int .i64 (k:Int)/\ue=.int .i64 (e:Int)/\uf=.bool f/\e<=k/\(k=0->e=0/\f=false)/\Lib.IsBuilderF 174 5 w.heap.size w.heap.size (Lib.byteCells T) wr/\Below w.heap.size w wr/\fld xs=T++foC (decide (0<k)) e f (xs.drop k)) (fun _ _ ui _=>len-(intOf ui).toNat)
 case atStart=>exact⟨0,0,false,[],Nat.zero_le _,rfl,rfl,rfl,Nat.le_refl _,fun _=>⟨rfl,rfl⟩,Lib.IsBuilderF.of (Lib.fresh_isBuilder _ _ w),(Below.refl _ w).alloc (Nat.le_refl _) _,(foC_all xs).symm⟩
 case round =>
  obtain⟨k,e,f,T,hk,rfl,rfl,rfl,hek,hk0,hB0,hbe1,hF⟩:=hrel;have HB:Hid (Lib.IsBuilderF 174 5 w.heap.size w.heap.size (Lib.byteCells T) wr):=hB0;have HK0:Hid (k=0->e=0/\f=false):=hk0;have hF0:Hid (fld xs=T++foC (decide (0<k)) e f (xs.drop k)):=hF;clear hF hk0 hB0;have hws:=hbe1.size;by_cases hlt:k<len
  ·obtain⟨b,off,rfl,hbb,hc⟩:=HZ.out.2 (by omega);have c0:=(hbe1.cell (p:=⟨b,off+k,none⟩) hbb).trans (hc k hlt);have HD:Hid (xs.drop k=xs.getD k []::xs.drop (k+1)):=drop_getD xs k (by rw[<-HZ.out.1];exact hlt);obtain⟨x,hx⟩:∃ x,x=xs.getD k []:=⟨_,rfl⟩;rw[<-hx]at c0 HD;clear hx hc
   have hxl:x.length<=140737488355328:=by
    have h1:=foC_len (decide (0<k)) e f x (xs.drop (k+1));have h2:=hb;rw[hF0.out,HD.out,List.length_append]at h2;omega
   rcases Nat.eq_zero_or_pos k with hk0 | hk0
   ·obtain⟨he0,hf0⟩:=HK0.out hk0;have HF:Hid (fld xs=T++foC false 0 false (x::xs.drop (k+1))):=by rw[hF0.out,HD.out,he0,hf0,hk0];exact rfl
    subst he0 hf0;clear HD hF0 HK0;subst hk0;rw[Nat.add_zero]at c0;by_cases hx0:x=[]
    ·have HE:Hid (fld xs=T++foC true 0 false (xs.drop (0+1))):=by rw[HF.out,foC,if_pos hx0];exact rfl
     rw[hx0,show mk []=(⟨#[]⟩:ByteArray)from rfl]at c0;go_wp2;go_roundw
     case rel=>exact⟨0+1,0,false,T,by omega,by go_num,by go_num,rfl,by omega,fun h=>absurd h (by omega),HB.out,hbe1,by rw[show decide (0<0+1)=true from by simp];exact HE.out⟩
     case measure=>(simp[intOf]<;>omega)
    have hq:((mk x).toList==[])=false:=by rw[mk_nil_eq];simpa using hx0
    have hfl:flat x= !(x.head?==some 32):=flat_head x hx0;have HE:Hid (fld xs=T++(btw 0 (false && flat x)++x++foC true 0 (flat x) (xs.drop (0+1)))):=by rw[HF.out,foC,if_neg hx0];exact rfl
    have hbl:=hb;rw[HE.out,List.length_append,List.length_append,List.length_append]at hbl;obtain⟨p,hp⟩:∃ p,p=(x.head?==some 32):=⟨_,rfl⟩;have HP:Hid (p=(x.head?==some 32)):=hp;rw[<-hp]at hfl;rw[hfl]at HE hbl;clear hp hfl HF;cases p
    ·go_wp2_with (first | (go_at_call 48;refine(hasPrefix_any x 32 _ hxl).mono ?_;rintro e' w' ⟨rfl,rfl⟩;rw[<-HP.out]));have hbt:=between_any 0 false wr (by intro h;first | omega | (cases h)) (by omega);rw[show (false && !false)=false from rfl,show (!false)=true from rfl]at HE;rw[show (false && !false)=false from rfl]at hbl;rw[show ((0:Nat):Int)=0 from rfl]at hbt;refine hbt.mono ?_;clear hbt;rintro e' w1 ⟨rfl,hb1⟩;have B1:=bld_later HB.out hb1;have s1:=hb1.size;have hbe2:Below w.heap.size w w1:=hbe1.trans (hb1.mono hws);go_wp2_with fail;refine(writeString_any w.heap.size w.heap.size _ (mk (btw 0 false)) _ B1 (by rw[Lib.byteCells_length,mk_size];omega) (by omega)).mono ?_;rintro e' w2 ⟨rfl,B2,hb2,o2⟩;rw[strCells_mk,<-byteCells_app]at B2;have hbe3:=hbe2.trans hb2;have s2:=hb2.size;clear o2 B1;go_wp2_with fail;refine(writeString_any w.heap.size w.heap.size _ (mk x) _ (.inr B2) (by rw[Lib.byteCells_length,mk_size,List.length_append];omega) (by omega)).mono ?_;rintro e' w3 ⟨rfl,B3,hb3,o3⟩;rw[strCells_mk,<-byteCells_app]at B3;have hbe4:=hbe3.trans hb3;clear o3 B2;go_wp2;go_roundw
     case rel=>exact⟨0+1,0,true,T++btw 0 false++x,by omega,by go_num,rfl,rfl,by omega,fun h=>absurd h (by omega),.inr B3,hbe4,by rw[HE.out,show decide (0<0+1)=true from by simp];simp only[List.append_assoc]⟩
     case measure=>(simp[intOf]<;>omega)
    ·go_wp2_with (first | (go_at_call 48;refine(hasPrefix_any x 32 _ hxl).mono ?_;rintro e' w' ⟨rfl,rfl⟩;rw[<-HP.out]));have hbt:=between_any 0 false wr (by intro h;first | omega | (cases h)) (by omega);rw[show (false && !true)=false from rfl,show (!true)=false from rfl]at HE;rw[show (false && !true)=false from rfl]at hbl;rw[show ((0:Nat):Int)=0 from rfl]at hbt;refine hbt.mono ?_;clear hbt;rintro e' w1 ⟨rfl,hb1⟩;have B1:=bld_later HB.out hb1;have s1:=hb1.size;have hbe2:Below w.heap.size w w1:=hbe1.trans (hb1.mono hws);go_wp2_with fail;refine(writeString_any w.heap.size w.heap.size _ (mk (btw 0 false)) _ B1 (by rw[Lib.byteCells_length,mk_size];omega) (by omega)).mono ?_;rintro e' w2 ⟨rfl,B2,hb2,o2⟩;rw[strCells_mk,<-byteCells_app]at B2;have hbe3:=hbe2.trans hb2;have s2:=hb2.size;clear o2 B1;go_wp2_with fail;refine(writeString_any w.heap.size w.heap.size _ (mk x) _ (.inr B2) (by rw[Lib.byteCells_length,mk_size,List.length_append];omega) (by omega)).mono ?_;rintro e' w3 ⟨rfl,B3,hb3,o3⟩;rw[strCells_mk,<-byteCells_app]at B3;have hbe4:=hbe3.trans hb3;clear o3 B2;go_wp2;go_roundw
     case rel=>exact⟨0+1,0,false,T++btw 0 false++x,by omega,by go_num,rfl,rfl,by omega,fun h=>absurd h (by omega),.inr B3,hbe4,by rw[HE.out,show decide (0<0+1)=true from by simp];simp only[List.append_assoc]⟩
     case measure=>(simp[intOf]<;>omega)
   ·have HF:Hid (fld xs=T++foC true e f (x::xs.drop (k+1))):=by rw[hF0.out,HD.out,show decide (0<k)=true from by simpa using hk0];exact rfl
    clear HD hF0 HK0;by_cases hx0:x=[]
    ·have HE:Hid (fld xs=T++foC true (e+1) f (xs.drop (k+1))):=by rw[HF.out,foC,if_pos hx0];exact rfl
     rw[hx0,show mk []=(⟨#[]⟩:ByteArray)from rfl]at c0;go_wp2;go_roundw
     case rel=>exact⟨k+1,(e+1),f,T,by omega,by go_num,by go_num,rfl,by omega,fun h=>absurd h (by omega),HB.out,hbe1,by rw[show decide (0<k+1)=true from by simp];exact HE.out⟩
     case measure=>(simp[intOf]<;>omega)
    have hq:((mk x).toList==[])=false:=by rw[mk_nil_eq];simpa using hx0
    have hfl:flat x= !(x.head?==some 32):=flat_head x hx0;have HE:Hid (fld xs=T++(btw (e+1) (f && flat x)++x++foC true 0 (flat x) (xs.drop (k+1)))):=by rw[HF.out,foC,if_neg hx0];exact rfl
    have hbl:=hb;rw[HE.out,List.length_append,List.length_append,List.length_append]at hbl;obtain⟨p,hp⟩:∃ p,p=(x.head?==some 32):=⟨_,rfl⟩;have HP:Hid (p=(x.head?==some 32)):=hp;rw[<-hp]at hfl;rw[hfl]at HE hbl;clear hp hfl HF;cases f
    ·cases p
     ·go_wp2_with (first | (go_at_call 48;refine(hasPrefix_any x 32 _ hxl).mono ?_;rintro e' w' ⟨rfl,rfl⟩;rw[<-HP.out]));have hbt:=between_any (e+1) false wr (by intro h;first | omega | (cases h)) (by omega);rw[show (false && !false)=false from rfl,show (!false)=true from rfl]at HE;rw[show (false && !false)=false from rfl]at hbl;rw[show ((e+1:Nat):Int)=(e:Int)+1 by omega]at hbt;refine hbt.mono ?_;clear hbt;rintro e' w1 ⟨rfl,hb1⟩;have B1:=bld_later HB.out hb1;have s1:=hb1.size;have hbe2:Below w.heap.size w w1:=hbe1.trans (hb1.mono hws);go_wp2_with fail;refine(writeString_any w.heap.size w.heap.size _ (mk (btw (e+1) false)) _ B1 (by rw[Lib.byteCells_length,mk_size];omega) (by omega)).mono ?_;rintro e' w2 ⟨rfl,B2,hb2,o2⟩;rw[strCells_mk,<-byteCells_app]at B2;have hbe3:=hbe2.trans hb2;have s2:=hb2.size;clear o2 B1;go_wp2_with fail;refine(writeString_any w.heap.size w.heap.size _ (mk x) _ (.inr B2) (by rw[Lib.byteCells_length,mk_size,List.length_append];omega) (by omega)).mono ?_;rintro e' w3 ⟨rfl,B3,hb3,o3⟩;rw[strCells_mk,<-byteCells_app]at B3;have hbe4:=hbe3.trans hb3;clear o3 B2;go_wp2;go_roundw
      case rel=>exact⟨k+1,0,true,T++btw (e+1) false++x,by omega,by go_num,rfl,rfl,by omega,fun h=>absurd h (by omega),.inr B3,hbe4,by rw[HE.out,show decide (0<k+1)=true from by simp];simp only[List.append_assoc]⟩
      case measure=>(simp[intOf]<;>omega)
     ·go_wp2_with (first | (go_at_call 48;refine(hasPrefix_any x 32 _ hxl).mono ?_;rintro e' w' ⟨rfl,rfl⟩;rw[<-HP.out]));have hbt:=between_any (e+1) false wr (by intro h;first | omega | (cases h)) (by omega);rw[show (false && !true)=false from rfl,show (!true)=false from rfl]at HE;rw[show (false && !true)=false from rfl]at hbl;rw[show ((e+1:Nat):Int)=(e:Int)+1 by omega]at hbt;refine hbt.mono ?_;clear hbt;rintro e' w1 ⟨rfl,hb1⟩;have B1:=bld_later HB.out hb1;have s1:=hb1.size;have hbe2:Below w.heap.size w w1:=hbe1.trans (hb1.mono hws);go_wp2_with fail;refine(writeString_any w.heap.size w.heap.size _ (mk (btw (e+1) false)) _ B1 (by rw[Lib.byteCells_length,mk_size];omega) (by omega)).mono ?_;rintro e' w2 ⟨rfl,B2,hb2,o2⟩;rw[strCells_mk,<-byteCells_app]at B2;have hbe3:=hbe2.trans hb2;have s2:=hb2.size;clear o2 B1;go_wp2_with fail;refine(writeString_any w.heap.size w.heap.size _ (mk x) _ (.inr B2) (by rw[Lib.byteCells_length,mk_size,List.length_append];omega) (by omega)).mono ?_;rintro e' w3 ⟨rfl,B3,hb3,o3⟩;rw[strCells_mk,<-byteCells_app]at B3;have hbe4:=hbe3.trans hb3;clear o3 B2;go_wp2;go_roundw
      case rel=>exact⟨k+1,0,false,T++btw (e+1) false++x,by omega,by go_num,rfl,rfl,by omega,fun h=>absurd h (by omega),.inr B3,hbe4,by rw[HE.out,show decide (0<k+1)=true from by simp];simp only[List.append_assoc]⟩
      case measure=>(simp[intOf]<;>omega)
    ·cases p
     ·go_wp2_with (first | (go_at_call 48;refine(hasPrefix_any x 32 _ hxl).mono ?_;rintro e' w' ⟨rfl,rfl⟩;rw[<-HP.out]));have hbt:=between_any (e+1) true wr (by intro h;first | omega | (cases h)) (by omega);rw[show (true && !false)=true from rfl,show (!false)=true from rfl]at HE;rw[show (true && !false)=true from rfl]at hbl;rw[show ((e+1:Nat):Int)=(e:Int)+1 by omega]at hbt;refine hbt.mono ?_;clear hbt;rintro e' w1 ⟨rfl,hb1⟩;have B1:=bld_later HB.out hb1;have s1:=hb1.size;have hbe2:Below w.heap.size w w1:=hbe1.trans (hb1.mono hws);go_wp2_with fail;refine(writeString_any w.heap.size w.heap.size _ (mk (btw (e+1) true)) _ B1 (by rw[Lib.byteCells_length,mk_size];omega) (by omega)).mono ?_;rintro e' w2 ⟨rfl,B2,hb2,o2⟩;rw[strCells_mk,<-byteCells_app]at B2;have hbe3:=hbe2.trans hb2;have s2:=hb2.size;clear o2 B1;go_wp2_with fail;refine(writeString_any w.heap.size w.heap.size _ (mk x) _ (.inr B2) (by rw[Lib.byteCells_length,mk_size,List.length_append];omega) (by omega)).mono ?_;rintro e' w3 ⟨rfl,B3,hb3,o3⟩;rw[strCells_mk,<-byteCells_app]at B3;have hbe4:=hbe3.trans hb3;clear o3 B2;go_wp2;go_roundw
      case rel=>exact⟨k+1,0,true,T++btw (e+1) true++x,by omega,by go_num,rfl,rfl,by omega,fun h=>absurd h (by omega),.inr B3,hbe4,by rw[HE.out,show decide (0<k+1)=true from by simp];simp only[List.append_assoc]⟩
      case measure=>(simp[intOf]<;>omega)
     ·go_wp2_with (first | (go_at_call 48;refine(hasPrefix_any x 32 _ hxl).mono ?_;rintro e' w' ⟨rfl,rfl⟩;rw[<-HP.out]));have hbt:=between_any (e+1) false wr (by intro h;first | omega | (cases h)) (by omega);rw[show (true && !true)=false from rfl,show (!true)=false from rfl]at HE;rw[show (true && !true)=false from rfl]at hbl;rw[show ((e+1:Nat):Int)=(e:Int)+1 by omega]at hbt;refine hbt.mono ?_;clear hbt;rintro e' w1 ⟨rfl,hb1⟩;have B1:=bld_later HB.out hb1;have s1:=hb1.size;have hbe2:Below w.heap.size w w1:=hbe1.trans (hb1.mono hws);go_wp2_with fail;refine(writeString_any w.heap.size w.heap.size _ (mk (btw (e+1) false)) _ B1 (by rw[Lib.byteCells_length,mk_size];omega) (by omega)).mono ?_;rintro e' w2 ⟨rfl,B2,hb2,o2⟩;rw[strCells_mk,<-byteCells_app]at B2;have hbe3:=hbe2.trans hb2;have s2:=hb2.size;clear o2 B1;go_wp2_with fail;refine(writeString_any w.heap.size w.heap.size _ (mk x) _ (.inr B2) (by rw[Lib.byteCells_length,mk_size,List.length_append];omega) (by omega)).mono ?_;rintro e' w3 ⟨rfl,B3,hb3,o3⟩;rw[strCells_mk,<-byteCells_app]at B3;have hbe4:=hbe3.trans hb3;clear o3 B2;go_wp2;go_roundw
      case rel=>exact⟨k+1,0,false,T++btw (e+1) false++x,by omega,by go_num,rfl,rfl,by omega,fun h=>absurd h (by omega),.inr B3,hbe4,by rw[HE.out,show decide (0<k+1)=true from by simp];simp only[List.append_assoc]⟩
      case measure=>(simp[intOf]<;>omega)
  ·have HE:Hid (fld xs=T++List.replicate e 10):=by rw[hF0.out,List.drop_of_length_le (by rw[<-HZ.out.1];omega)];cases hq:decide (0<k)<;>exact rfl
   have hbl:=hb;rw[HE.out,List.length_append,List.length_replicate]at hbl;clear hF0 HK0;go_wp2_with fail;refine(rep_any 10 e _ (by omega)).mono ?_;rintro e' w1 ⟨rfl,hb1⟩;have B1:=bld_later HB.out hb1;have s1:=hb1.size;have hbe2:Below w.heap.size w w1:=hbe1.trans (hb1.mono hws);go_wp2_with fail;refine(writeString_any w.heap.size w.heap.size _ (mk (List.replicate e 10)) _ B1 (by rw[Lib.byteCells_length,mk_size,List.length_replicate];omega) (by omega)).mono ?_;rintro e' w2 ⟨rfl,B2,hb2,o2⟩;rw[strCells_mk,<-byteCells_app,<-HE.out]at B2;have hbe3:=hbe2.trans hb2;have s2:=hb2.size;go_wp2_with fail;refine(string_any w.heap.size w.heap.size (fld xs) _ (.inr B2) (by omega)).mono ?_;rintro e' w3 ⟨rfl,_,hb3,_⟩;go_wp2;go_ret;exact⟨rfl,hbe3.trans hb3⟩
end Blk
namespace Blk
open Go.RowKit
open Rws (mk mk_data mk_size mk_of mk_ext mk_get mk_inj)
theorem join_lib (c:UInt8):∀ xs:List Ln,Lib.join xs [c]=joinW c xs
 | []=>rfl
 | [x]=>by simp[Lib.join,joinW]
 | x::y::t=>by
  have ih:=join_lib c (y::t);rw[join_cons,<-ih];simp[Lib.join]
theorem join_any (a:Option Addr) (len cap:Nat) (xs:List Ln) (w:World) (h:StrsAt w a len xs) (hc:len<=cap) (hl:len<=140737488355328) (hb:(joinW 10 xs).length<=140737488355328) :
  Calls Tryz.prog 132 #[.slice a len cap,.string ⟨#[10]⟩] w fun e w'=>e=.returned (.string (mk (joinW 10 xs)))/\Below w.heap.size w w':=by
 by_cases h0:len=0
 ·subst h0;obtain rfl:xs=[]:=List.eq_nil_of_length_eq_zero h.1.symm;refine(join_none a cap ⟨#[10]⟩ w).mono ?_;rintro e w' ⟨rfl,rfl⟩;exact⟨rfl,Below.refl _ _⟩
 ·obtain⟨b,off,rfl,hbb,hcc⟩:=h.2 (by omega)
  have e1:(xs.map mk).map (·.data.toList)=xs:=by
   rw[List.map_map]
   conv=>rhs;rw[<-List.map_id xs]
   exact List.map_congr_left (fun x _=>mk_data x)
  have hq:=join_some b off cap (xs.map mk) ⟨#[10]⟩ w ?_ hbb (by rw[List.length_map,<-h.1];exact hl) (by rw[List.length_map,<-h.1];exact hc) (by rw[e1];show (Lib.join xs [10]).length<=_;rw[join_lib];exact hb)
  ·rw[e1,List.length_map,<-h.1]at hq;have e2:Lib.join xs (⟨#[10]⟩:ByteArray).data.toList=joinW 10 xs:=join_lib 10 xs;rw[e2]at hq;exact hq
  ·intro j x hx;rw[List.getElem?_map]at hx
   have hj:j<xs.length:=by
    rcases Nat.lt_or_ge j xs.length with q | q
    ·exact q
    ·rw[List.getElem?_eq_none q]at hx;cases hx
   rw[List.getElem?_eq_getElem hj]at hx;cases hx;rw[hcc j (by rw[h.1];exact hj),List.getD_eq_getElem?_getD,List.getElem?_eq_getElem hj];rfl
def takV (f:Bool) (c:Int):List Ln ⊕ Int->Value
 | .inl ls=>.tuple #[.string (mk (txt f c ls)),.int .i64 (ls.length:Int),.agg #[.int .i64 0,.int .i64 0]]
 | .inr x=>.tuple #[.string ⟨#[]⟩,.int .i64 0,.agg #[.int .i64 9,.int .i64 x]]
set_option maxHeartbeats 4000000 in
theorem take_any (a:Option Addr) (len cap:Nat) (rs:List Rw) (col:Int) (f:Bool) (c:Int) (w:World) (h:RwAt w a len rs) (hl:len<=1048576) (hw:∀ r∈rs,r.1<=9223372036854775807/\r.2.1.length<=140737488355328)
  (hb:∀ ls,lo none (rws rs col)=.inl ls->(joinW 10 (trm ls)).length<=1000000000/\(fld (trm ls)).length<=1000000000) :
  Calls Tryz.prog 116 #[.slice a len cap,.int .i64 col,.agg #[.bool f,.int .i64 c]] w fun e w'=>e=.returned (takV f c (lo none (rws rs col)))/\Below w.heap.size w w':=by
 have HZ:Hid (RwAt w a len rs):=h;have HLN:Hid (∀ W,Below w.heap.size w W->Calls Tryz.prog 130 #[.slice a len cap,.int .i64 col] W fun e w'=>LinesRes (lo none (rws rs col)) W e w'):=fun W hb=>linesOf_any a len cap rs col W (h.later hb (Nat.le_refl _)) hl hw
 have HLL:Hid (∀ ls,lo none (rws rs col)=.inl ls->ls.length<=1048576):=fun ls q=>by
  have h1:=lo_len _ _ _ q;have h2:(rws rs col).length<=rs.length:=by unfold rws;exact(List.takeWhile_sublist _).length_le
  rw[h1];have:=h.1;omega
 have HBB:Hid (∀ ls,lo none (rws rs col)=.inl ls->(joinW 10 (trm ls)).length<=1000000000/\(fld (trm ls)).length<=1000000000):=hb;clear h hw hb;obtain⟨R,hR⟩:∃ R,lo none (rws rs col)=R:=⟨_,rfl⟩;rw[hR]at HLN HLL HBB |-;clear hR HZ;obtain⟨W2,hW2⟩:∃ W2,(w.alloc (.cells #[.bool f,.int .i64 c] 127)).alloc (.cells #[.int .i64 0,.int .i64 0] 32)=W2:=⟨_,rfl⟩;have hbW:Below w.heap.size w W2:=by rw[<-hW2];exact((Below.refl _ _).alloc (Nat.le_refl _) _).alloc (by simp) _
 have hWs:W2.heap.size=w.heap.size+2:=by rw[<-hW2];simp
 have hc0:W2.heap[w.heap.size]?=some (.cells #[.bool f,.int .i64 c] 127 (0,0)):=by
  rw[<-hW2];exact((Below.refl _ (w.alloc _)).alloc (Nat.le_refl _) _).block _ (by simp) |>.trans (heap_alloc_new w _)
 have hc1:W2.heap[w.heap.size+1]?=some (.cells #[.int .i64 0,.int .i64 0] 32 (0,0)):=by
  rw[<-hW2];have h:=heap_alloc_new (w.alloc (.cells #[.bool f,.int .i64 c] 127)) (.cells #[.int .i64 0,.int .i64 0] 32);rw[World.size_alloc]at h;exact h
 have HKK:Hid (∀ W,Below (w.heap.size+2) W2 W->Below w.heap.size w W/\W.cell? ⟨w.heap.size,0,none⟩=some (.bool f)/\W.cell? ⟨w.heap.size,1,none⟩=some (.int .i64 c)/\W.cell? ⟨w.heap.size+1,0,none⟩=some (.int .i64 0)/\W.cell? ⟨w.heap.size+1,1,none⟩=some (.int .i64 0)/\W.frozen? ⟨w.heap.size+1,0,none⟩=false/\W.frozen? ⟨w.heap.size+1,1,none⟩=false):=fun W hb=>by
  have hk:W.heap[w.heap.size]?=some (.cells #[.bool f,.int .i64 c] 127 (0,0)):=(hb.block _ (by omega)).trans hc0;have hk1:W.heap[w.heap.size+1]?=some (.cells #[.int .i64 0,.int .i64 0] 32 (0,0)):=(hb.block _ (by omega)).trans hc1;exact⟨hbW.trans (hb.mono (by omega)),by rw[Lib.cell_of_heap hk];rfl,by rw[Lib.cell_of_heap hk];rfl,by rw[Lib.cell_of_heap hk1];rfl,by rw[Lib.cell_of_heap hk1];rfl,Lib.frozen_of_heap hk1 0,Lib.frozen_of_heap hk1 1⟩
 have HLN2:=HLN.out W2 hbW;have HLN2:Hid (Calls Tryz.prog 130 #[.slice a len cap,.int .i64 col] W2 fun e w'=>LinesRes R W2 e w'):=HLN2;clear hbW hc0 hc1 HLN;go_enter Tryz.func116,Tryz.ntmps116;go_wp2_with fail;clear hW2;refine HLN2.out.mono ?_;clear HLN2;intro e w1 hres;rcases hres with ⟨ls,v,rfl,rfl,hown,hb1⟩ | ⟨x,rfl,rfl,hb1⟩
 ·have hls:=HLL.out ls rfl;obtain⟨hJ,hF⟩:=HBB.out ls rfl;obtain⟨a1,cap1,rfl,hcap,hat⟩:=strs_own hown;clear HLL HBB hown;have HT:Hid (StrsAt w1 a1 ls.length ls):=hat;clear hat;rw[hWs]at hb1;obtain⟨k0,k1,k2,k3,k4,k5,k6⟩:=HKK.out _ hb1;obtain⟨N,hN⟩:∃ N,N=ls.length:=⟨_,rfl⟩;obtain⟨n,hn⟩:∃ n,n=(trm ls).length:=⟨_,rfl⟩;have hnN:n<=N:=by rw[hn,hN];exact trm_le ls
  have HTT:Hid (trm ls=ls.take n):=by rw[hn];exact(trm_take ls).symm
  have HTX:Hid (takV f c (.inl ls)=.tuple #[.string (mk (body f (trm ls)++List.replicate (ed c n (N-n)) 10)),.int .i64 (N:Int),.agg #[.int .i64 0,.int .i64 0]]):=by rw[hn,hN];exact rfl
  rw[<-hN]at hls hcap HT |-
  have HWE:Hid (∀ W,Below w1.heap.size w1 W->Calls Tryz.prog 131 #[.slice a1 N cap1] W fun e w'=>e=.returned (.slice a1 n cap1)/\Below W.heap.size W w'):=fun W hb=>by
   rw[hn];exact withoutEnd_any a1 N cap1 ls W (HT.out.later hb (Nat.le_refl _)) (by omega) hcap
  have HJO:Hid (∀ W,Below w1.heap.size w1 W->Calls Tryz.prog 132 #[.slice a1 n cap1,.string ⟨#[10]⟩] W fun e w'=>e=.returned (.string (mk (joinW 10 (trm ls))))/\Below W.heap.size W w'):=fun W hb=>by
   have hq:=(HT.out.later hb (Nat.le_refl _)).take n hnN;rw[<-HTT.out]at hq;exact join_any a1 n cap1 (trm ls) W hq (by omega) (by omega) (by omega)
  have HFO:Hid (∀ W,Below w1.heap.size w1 W->Calls Tryz.prog 133 #[.slice a1 n cap1] W fun e w'=>e=.returned (.string (mk (fld (trm ls))))/\Below W.heap.size W w'):=fun W hb=>by
   have hq:=(HT.out.later hb (Nat.le_refl _)).take n hnN;rw[<-HTT.out]at hq;exact fold_any a1 n cap1 (trm ls) W hq (by omega) (by omega)
  have HBO:Hid (body f (trm ls)=if f=true then fld (trm ls)else joinW 10 (trm ls)):=rfl;have hsub:(N:Int)-(n:Int)=((N-n:Nat):Int):=by omega
  generalize joinW 10 (trm ls)=J at *;generalize fld (trm ls)=F at *;generalize body f (trm ls)=B at *;have hwr:IntKind.i64.wrap ((N:Int)-(n:Int))=((N-n:Nat):Int):=by rw[IntKind.wrap_i64];omega
  generalize hm:N-n=m at *;have hml:m<=1048576:=by omega
  have hel:ed c n m<=m+1:=by unfold ed;split<;>split<;>omega
  clear hN hn hm HTT HT;have hs1:=hb1.size;go_wp2_with fail;refine(HWE.out _ ((Below.refl _ _).alloc (Nat.le_refl _) _)).mono ?_;rintro e w3 ⟨rfl,hb3⟩;rw[World.size_alloc]at hb3;have B3:Below w1.heap.size w1 w3:=((Below.refl _ w1).alloc (Nat.le_refl _) _).trans (hb3.mono (by omega));have s3:=B3.size;clear hb3 HWE;go_wp2_with fail;refine(HJO.out _ B3).mono ?_;rintro e w4 ⟨rfl,hb4⟩;have B4:Below w1.heap.size w1 w4:=B3.trans (hb4.mono s3);have s4:=B4.size;clear hb4 HJO;obtain⟨j0,j1,j2,j3,j4,j5,j6⟩:=HKK.out _ (hb1.trans (B4.mono (by omega)));cases f
  ·have HBJ:Hid (B=J):=HBO.out;go_wp2_with fail;refine(ending_any c n m _ (by omega) (by omega)).mono ?_;rintro e w6 ⟨rfl,hb6⟩;obtain⟨E,HEE⟩:∃ E:Ln,Hid (E=List.replicate (ed c n m) 10):=⟨_,rfl⟩;have hEl:E.length<=m+1:=by rw[HEE.out,List.length_replicate];exact hel
   rw[<-HEE.out];have B6:Below w1.heap.size w1 w6:=B4.trans (hb6.mono s4);have s6:=B6.size;clear hb6;obtain⟨i0,i1,i2,i3,i4,i5,i6⟩:=HKK.out _ (hb1.trans (B6.mono (by omega)));have hcat: ¬ (9223372036854775807<(mk J).size+(mk E).size):=by rw[mk_size,mk_size];omega
   go_wp2_with fail;refine bodyPost_ret (v:=.tuple #[.string (mk J++mk E),.int .i64 (N:Int),.agg #[.int .i64 0,.int .i64 0]]) (by simp[results,Tryz.results116,go_sem,i3,i4]) rfl ⟨by rw[HTX.out,HBJ.out,mk_app,HEE.out],(i0.setCell (p:=⟨w.heap.size+1,0,none⟩) (Nat.le_succ _) _).setCell (p:=⟨w.heap.size+1,1,none⟩) (Nat.le_succ _) _⟩
  ·have HBJ:Hid (B=F):=HBO.out;go_wp2_with fail;refine(HFO.out _ B4).mono ?_;rintro e w5 ⟨rfl,hb5⟩;have B5:Below w1.heap.size w1 w5:=B4.trans (hb5.mono s4);have s5:=B5.size;clear hb5 HFO;obtain⟨q0,q1,q2,q3,q4,q5,q6⟩:=HKK.out _ (hb1.trans (B5.mono (by omega)));go_wp2_with fail;refine(ending_any c n m _ (by omega) (by omega)).mono ?_;rintro e w6 ⟨rfl,hb6⟩;obtain⟨E,HEE⟩:∃ E:Ln,Hid (E=List.replicate (ed c n m) 10):=⟨_,rfl⟩;have hEl:E.length<=m+1:=by rw[HEE.out,List.length_replicate];exact hel
   rw[<-HEE.out];have B6:Below w1.heap.size w1 w6:=B5.trans (hb6.mono s5);have s6:=B6.size;clear hb6;obtain⟨i0,i1,i2,i3,i4,i5,i6⟩:=HKK.out _ (hb1.trans (B6.mono (by omega)));have hcat: ¬ (9223372036854775807<(mk F).size+(mk E).size):=by rw[mk_size,mk_size];omega
   go_wp2_with fail;refine bodyPost_ret (v:=.tuple #[.string (mk F++mk E),.int .i64 (N:Int),.agg #[.int .i64 0,.int .i64 0]]) (by simp[results,Tryz.results116,go_sem,i3,i4]) rfl ⟨by rw[HTX.out,HBJ.out,mk_app,HEE.out],(i0.setCell (p:=⟨w.heap.size+1,0,none⟩) (Nat.le_succ _) _).setCell (p:=⟨w.heap.size+1,1,none⟩) (Nat.le_succ _) _⟩
 ·rw[hWs]at hb1;obtain⟨W5,hW5⟩:∃ W5,w1.alloc (.cells #[.int .i64 9,.int .i64 x] 32)=W5:=⟨_,rfl⟩;have hs1:=hb1.size;have hb5:Below (w.heap.size+2) W2 W5:=by rw[<-hW5];exact hb1.alloc (by omega) _
  obtain⟨k0,k1,k2,k3,k4,k5,k6⟩:=HKK.out _ hb5;have hc5:W5.heap[w1.heap.size]?=some (.cells #[.int .i64 9,.int .i64 x] 32 (0,0)):=by rw[<-hW5];exact heap_alloc_new w1 _
  have d0:W5.cell? ⟨w1.heap.size,0,none⟩=some (.int .i64 9):=by rw[Lib.cell_of_heap hc5];rfl
  have d1:W5.cell? ⟨w1.heap.size,1,none⟩=some (.int .i64 x):=by rw[Lib.cell_of_heap hc5];rfl
  clear hc5 hb5;go_wp2;go_region
  all_goals (
   go_wp2;refine bodyPost_ret (v:=.tuple #[.string ⟨#[]⟩,.int .i64 0,.agg #[.int .i64 9,.int .i64 x]]) (by simp[results,Tryz.results116,go_sem,k3,k4]) rfl ⟨rfl,(k0.drew.setCell (p:=⟨w.heap.size+1,0,none⟩) (Nat.le_succ _) _).setCell (p:=⟨w.heap.size+1,1,none⟩) (Nat.le_succ _) _⟩)
end Blk
end Go.Proofs.YtalijhclfppohaaGreatDoor
