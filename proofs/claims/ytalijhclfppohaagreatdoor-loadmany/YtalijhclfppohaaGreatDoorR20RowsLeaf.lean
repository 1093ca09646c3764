/- . -/
import Derived.Test.YtalijhclfppohaaGreatDoorRows
import Derived.Test.YtalijhclfppohaaGreatDoorR05UtfLeaf
import Derived.Test.YtalijhclfppohaaGreatDoorR01RowsPlain
import Derived.Laws.StandIn
import Derived.Lib.Bytealg
set_option linter.unusedSimpArgs false
set_option linter.unusedVariables false
namespace Go.Proofs.YtalijhclfppohaaGreatDoor
namespace Rws
open Utf
open Go.RowKit
def strLen:Value->Nat
 | .string t=>t.size
 | _=>0
theorem has_cons (c b:UInt8) (r:List UInt8):has c (b::r)=(b==c || has c r):=by simp[has]
theorem index_eq (l:List UInt8) (c:UInt8):Lib.indexByte l c=idx c l:=by
 induction l with
 | nil=>rfl
 | cons b r ih =>
  unfold Lib.indexByte;unfold idx;rw[has_cons,List.takeWhile_cons];by_cases hb:b=c
  ·subst hb;simp
  ·have h1:(b==c)=false:=by simpa using hb
   have h2:(b != c)=true:=by simpa using hb
   rw[h1,h2,ih];simp only[Bool.false_or,Bool.false_eq_true,if_false,if_true];unfold idx;cases h:has c r
   ·simp
   ·simp only[if_true,List.length_cons];rw[if_neg (by simp)]
    push_cast
    omega
theorem run_ix (s:ByteArray) (c:UInt8) (w:World):(callFunc 84 #[.string s,.int .u8 c.toNat]).run Tryz.prog w=.ok (.value (.int .i64 (idx c s.data.toList))) w:=by
 rw[run_callFunc_indexByte Tryz.func84 (by kernel_rfl) (by kernel_rfl) (by kernel_rfl) (by kernel_rfl),run_indexByte_string,Lib.firstIdx_eq,index_eq];simp[Result.andThen]
theorem indexByteL_any (s:ByteArray) (c:UInt8) (w:World):Calls Tryz.prog 58 #[.string s,.int .u8 c.toNat] w fun e w'=>e=.returned (.int .i64 (idx c s.data.toList))/\w=w':=by
 have h:=run_ix s c w;go_enter Tryz.func58,Tryz.ntmps58;go_wp2;go_ret;exact⟨rfl,rfl⟩
theorem indexByte_any (s:ByteArray) (c:UInt8) (w:World):Calls Tryz.prog 37 #[.string s,.int .u8 c.toNat] w fun e w'=>e=.returned (.int .i64 (idx c s.data.toList))/\w=w':=by
 go_enter Tryz.func37,Tryz.ntmps37;go_wp2_with (first | (go_at_call 58;refine(indexByteL_any _ _ _).mono ?_;rintro e w' ⟨rfl,rfl⟩));go_ret;exact⟨rfl,rfl⟩
theorem ret_str {a b:ByteArray} (h:a=b):Ending.returned (.string a)=.returned (.string b):=by rw[h]
theorem index10_any (s:ByteArray) (w:World):Calls Tryz.prog 78 #[.string s,.string ⟨#[10]⟩] w fun e w'=>e=.returned (.int .i64 (idx 10 s.data.toList))/\w=w':=by
 by_cases hs:s=⟨#[10]⟩
 ·subst hs;go_enter Tryz.func78,Tryz.ntmps78;go_wp2;go_ret;exact⟨by simp[idx,has],rfl⟩
 ·have hne:([10]==s.toList)=false:=by
   rw[beq_eq_false_iff_ne];intro h;apply hs;rw[ByteArray.toList_eq]at h;rw[<-mk_of s,<-h];rfl
  go_enter Tryz.func78,Tryz.ntmps78;go_wp2_with (first | (go_at_call 58;refine(indexByteL_any _ 10 _).mono ?_;rintro e w' ⟨rfl,rfl⟩));go_ret;exact⟨rfl,rfl⟩
def cutA (l:List UInt8):List UInt8:=if has 10 l=true then bef l else l
def cutB (l:List UInt8):List UInt8:=if has 10 l=true then aft l else []
theorem cut_any (l:List UInt8) (w:World) (hs:l.length<=140737488355328):Calls Tryz.prog 49 #[.string (mk l),.string ⟨#[10]⟩] w fun e w'=>e=.returned (.tuple #[.string (mk (cutA l)),.string (mk (cutB l)),.bool (has 10 l)])/\Below w.heap.size w w':=by
 have hsz:=mk_size l;have H:Hid ((mk l).size=l.length):=hsz;clear hsz;cases hh:has 10 l
 ·have hi:idx 10 l= -1:=idx_no hh;have HC:Hid (mk (cutA l)=mk l/\mk (cutB l)=⟨#[]⟩):=⟨by unfold cutA;rw[hh];rfl,by unfold cutB;rw[hh];rfl⟩;go_enter Tryz.func49,Tryz.ntmps49;go_wp2_with (first | (go_at_call 78;refine(index10_any _ _).mono ?_;rintro e w' ⟨rfl,rfl⟩;rw[mk_data,hi]));refine bodyPost_ret (v:=.tuple #[.string (mk l),.string ⟨#[]⟩,.bool false]) (by simp[results,Tryz.results49,go_sem]) rfl ⟨?_,Below.refl _ _⟩;rw[HC.out.1,HC.out.2]
 ·have hi:idx 10 l=((bef l).length:Int):=idx_yes hh;have hlt:(bef l).length<(mk l).size:=by rw[H.out];exact take_lt hh
  have hle:(mk l).size<=140737488355328:=by rw[H.out];exact hs
  have HC:Hid (mk (cutA l)=(mk l).extract 0 (bef l).length/\mk (cutB l)=(mk l).extract ((bef l).length+1) (mk l).size):=by
   refine⟨?_,?_⟩
   ·rw[mk_ext,List.drop_zero,Nat.sub_zero,bef_take];unfold cutA;rw[hh];rfl
   ·rw[mk_ext,List.take_of_length_le (by rw[H.out,List.length_drop];omega)];unfold cutB;rw[hh];rfl
  go_enter Tryz.func49,Tryz.ntmps49;go_wp2_with (first | (go_at_call 78;refine(index10_any _ _).mono ?_;rintro e w' ⟨rfl,rfl⟩;rw[mk_data,hi]));go_region
  all_goals go_wp2
  refine bodyPost_ret (v:=.tuple #[.string ((mk l).extract 0 (bef l).length),.string ((mk l).extract ((bef l).length+1) (mk l).size),.bool true]) (by simp[results,Tryz.results49,go_sem]) rfl ⟨?_,(Below.refl _ _).drew⟩;rw[HC.out.1,HC.out.2]
theorem scut_any (l:List UInt8) (w:World) (hs:l.length<=140737488355328):Calls Tryz.prog 33 #[.string (mk l),.string ⟨#[10]⟩] w fun e w'=>e=.returned (.tuple #[.string (mk (cutA l)),.string (mk (cutB l)),.bool (has 10 l)])/\Below w.heap.size w w':=by
 go_enter Tryz.func33,Tryz.ntmps33;go_wp2_with (first | (go_at_call 49;refine(cut_any _ _ hs).mono ?_;rintro e w' ⟨rfl,hb⟩));refine bodyPost_ret (v:=.tuple #[.string (mk (cutA l)),.string (mk (cutB l)),.bool (has 10 l)]) (by simp[results,Tryz.results33,go_sem]) rfl ⟨rfl,hb⟩
theorem snoc_ex (l:List UInt8) (h:l≠[]):∃ r b,l=r++[b]:=⟨l.dropLast,l.getLast h,(List.dropLast_concat_getLast h).symm⟩
theorem hasSuffix_any (l:List UInt8) (w:World) (hs:l.length<=140737488355328):Calls Tryz.prog 79 #[.string (mk l),.string ⟨#[13]⟩] w fun e w'=>e=.returned (.bool (l.getLast?==some 13))/\w=w':=by
 by_cases h0:l=[]
 ·subst h0;go_enter Tryz.func79,Tryz.ntmps79;have hz:(mk []).size=0:=rfl;go_wp2;go_ret;exact⟨rfl,rfl⟩
 ·obtain⟨r,b,rfl⟩:=snoc_ex l h0;have hsz:(mk (r++[b])).size=r.length+1:=by rw[mk_size];simp
  have hsl:r.length+1<=140737488355328:=by simpa using hs
  have hx:((mk (r++[b])).extract r.length (r.length+1)).toList=[b]:=by rw[ByteArray.toList_eq,mk_ext,mk_data];simp
  go_enter Tryz.func79,Tryz.ntmps79;go_wp2;go_ret;refine⟨?_,rfl⟩;simp[hx]
theorem chop_snoc (r:List UInt8) (b:UInt8):chop (r++[b])=if b=13 then r else r++[b]:=by unfold chop;simp
theorem trimSuffixL_any (l:List UInt8) (w:World) (hs:l.length<=140737488355328):Calls Tryz.prog 50 #[.string (mk l),.string ⟨#[13]⟩] w fun e w'=>e=.returned (.string (mk (chop l)))/\w=w':=by
 cases hc:(l.getLast?==some 13)
 ·have HC:Hid (chop l=l):=by unfold chop;rw[if_neg (by simpa using hc)];rfl
  go_enter Tryz.func50,Tryz.ntmps50;go_wp2_with (first | (go_at_call 79;refine(hasSuffix_any _ _ hs).mono ?_;rintro e w' ⟨rfl,rfl⟩));go_ret;rw[HC.out];exact⟨rfl,rfl⟩
 ·have h0:l≠[]:=by intro e;subst e;cases hc
  obtain⟨r,b,rfl⟩:=snoc_ex l h0;have hb:b=13:=by simpa using hc
  subst hb;have hsz:(mk (r++[13])).size=r.length+1:=by rw[mk_size];simp
  have hsl:r.length+1<=140737488355328:=by simpa using hs
  have HC:Hid (mk (chop (r++[13]))=(mk (r++[13])).extract 0 r.length):=by rw[chop_snoc,if_pos rfl,mk_ext];simp[Hid]
  go_enter Tryz.func50,Tryz.ntmps50;go_wp2_with (first | (go_at_call 79;refine(hasSuffix_any _ _ hs).mono ?_;rintro e w' ⟨rfl,rfl⟩));go_ret;rw[HC.out];exact⟨rfl,rfl⟩
theorem trimSuffix_any (l:List UInt8) (w:World) (hs:l.length<=140737488355328):Calls Tryz.prog 34 #[.string (mk l),.string ⟨#[13]⟩] w fun e w'=>e=.returned (.string (mk (chop l)))/\w=w':=by
 go_enter Tryz.func34,Tryz.ntmps34;go_wp2_with (first | (go_at_call 50;refine(trimSuffixL_any _ _ hs).mono ?_;rintro e w' ⟨rfl,rfl⟩));go_ret;exact⟨rfl,rfl⟩
end Rws
end Go.Proofs.YtalijhclfppohaaGreatDoor
