/- . -/
import Derived.Test.YtidhpmcmbooaoaaGreatDoorR05FlowMem
set_option linter.unusedSimpArgs false
set_option linter.unusedVariables false
set_option maxRecDepth 100000
namespace Go.Proofs.YtidhpmcmbooaoaaGreatDoor
namespace Tre
open Utf Rws Pln Flw
open Go.RowKit
set_option maxHeartbeats 2000000
def eMk (l:Ln):Bool:=l==[] || hd l==32
def noth (l:Ln):Bool:=l==[] || hd l==35
def isIt (l:Ln):Bool:=hd l==45 && eMk (l.drop 1)
theorem hasPL_any (l:Ln) (c:UInt8) (w:World) (hl:l.length<=140737488355328) (hc:c≠0):Calls Tryz.prog 74 #[.string (mk l),.string ⟨#[c]⟩] w fun e w'=>e=.returned (.bool (hd l==c))/\w=w':=by
 have hsz:=mk_size l;have ho:(⟨#[c]⟩:ByteArray).size=1:=rfl
 cases l with
 | nil =>
  have hx:(hd []==c)=false:=by rw[hd_nil];simpa using fun e=>hc e.symm
  rw[hx];have h0:(mk []).size=0:=rfl;go_enter Tryz.func74,Tryz.ntmps74;go_wp2;go_ret;exact⟨rfl,rfl⟩
 | cons b r =>
  rw[hd_cons];have hl1:(b::r).length=r.length+1:=rfl;have hext:(mk (b::r)).extract 0 1=mk [b]:=by rw[mk_ext];rfl
  have hq:((mk [b]).toList==[c])=(b==c):=by rw[ByteArray.toList_eq,mk_data];simp
  generalize mk (b::r)=s at *;cases hbc:(b==c)<;>rw[hbc]at hq<;>clear hbc <;>
  ·go_enter Tryz.func74,Tryz.ntmps74;go_wp2;go_ret;exact⟨rfl,rfl⟩
theorem hasP_any (l:Ln) (c:UInt8) (w:World) (hl:l.length<=140737488355328) (hc:c≠0):Calls Tryz.prog 52 #[.string (mk l),.string ⟨#[c]⟩] w fun e w'=>e=.returned (.bool (hd l==c))/\w=w':=by
 have HL:Hid (Calls Tryz.prog 74 #[.string (mk l),.string ⟨#[c]⟩] w fun e w'=>e=.returned (.bool (hd l==c))/\w=w'):=hasPL_any l c w hl hc;go_enter Tryz.func52,Tryz.ntmps52;go_wp2_with fail;refine HL.out.mono ?_;rintro e w' ⟨rfl,rfl⟩;go_wp2;go_ret;exact⟨rfl,rfl⟩
theorem endsMark_any (l:Ln) (w:World) (hl:l.length<=140737488355328):Calls Tryz.prog 75 #[.string (mk l)] w fun e w'=>e=.returned (.bool (eMk l))/\w=w':=by
 have HP:Hid (Calls Tryz.prog 52 #[.string (mk l),.string ⟨#[32]⟩] w fun e w'=>e=.returned (.bool (hd l==32))/\w=w'):=hasP_any l 32 w hl (by decide);have HV:Hid (eMk l=(l==[] || hd l==32)):=rfl;have e1:((mk l).toList==[])=(l==[]):=by rw[ByteArray.toList_eq,mk_data]
 have e2:(mk l).toList.isEmpty=(l==[]):=by rw[ByteArray.toList_eq,mk_data];cases l<;>rfl
 generalize hd l=b at *;cases c:(l==[])<;>rw[c]at e1 e2 HV<;>clear c
 ·go_enter Tryz.func75,Tryz.ntmps75;go_wp2_with (go_at_call 52;refine HP.out.mono ?_;rintro e w' ⟨rfl,rfl⟩);go_ret;exact⟨by rw[HV.out];rfl,rfl⟩
 ·go_enter Tryz.func75,Tryz.ntmps75;go_wp2;go_ret;exact⟨by rw[HV.out];rfl,rfl⟩
theorem isEmpty_any (l:Ln) (w:World) (hl:l.length<=140737488355328):Calls Tryz.prog 33 #[.string (mk l)] w fun e w'=>e=.returned (.bool (noth l))/\w=w':=by
 have HP:Hid (Calls Tryz.prog 52 #[.string (mk l),.string ⟨#[35]⟩] w fun e w'=>e=.returned (.bool (hd l==35))/\w=w'):=hasP_any l 35 w hl (by decide);have HV:Hid (noth l=(l==[] || hd l==35)):=rfl;have e1:((mk l).toList==[])=(l==[]):=by rw[ByteArray.toList_eq,mk_data]
 have e2:(mk l).toList.isEmpty=(l==[]):=by rw[ByteArray.toList_eq,mk_data];cases l<;>rfl
 generalize hd l=b at *;cases c:(l==[])<;>rw[c]at e1 e2 HV<;>clear c
 ·go_enter Tryz.func33,Tryz.ntmps33;go_wp2_with (go_at_call 52;refine HP.out.mono ?_;rintro e w' ⟨rfl,rfl⟩);go_ret;exact⟨by rw[HV.out];rfl,rfl⟩
 ·go_enter Tryz.func33,Tryz.ntmps33;go_wp2;go_ret;exact⟨by rw[HV.out];rfl,rfl⟩
theorem withoutBlanks_any (l:Ln) (w:World) (hl:l.length<=140737488355328):Calls Tryz.prog 49 #[.string (mk l)] w fun e w'=>e=.returned (.string (mk (gaps l)))/\w=w':=by
 have HP:Hid (Calls Tryz.prog 70 #[.string (mk l),.string ⟨#[32]⟩] w fun e w'=>e=.returned (.string (mk (gaps l)))/\w=w'):=trimLeft_any l w hl;generalize gaps l=g at *;go_enter Tryz.func49,Tryz.ntmps49;go_wp2_with fail;refine HP.out.mono ?_;rintro e w' ⟨rfl,rfl⟩;go_wp2;go_ret;exact⟨rfl,rfl⟩
theorem cutPrefix_any (l:Ln) (c:UInt8) (w:World) (hl:l.length<=140737488355328) (hc:c≠0):Calls Tryz.prog 72 #[.string (mk l),.string ⟨#[c]⟩] w fun e w'=>e=.returned (.tuple #[.string (mk (if hd l=c then l.drop 1 else l)),.bool (hd l==c)])/\w=w':=by
 have hsz:=mk_size l;have ho:(⟨#[c]⟩:ByteArray).size=1:=rfl
 have HL:Hid (Calls Tryz.prog 99 #[.string (mk l),.string ⟨#[c]⟩] w fun e w'=>e=.returned (.tuple #[.string (mk (if hd l=c then l.drop 1 else l)),.bool (hd l==c)])/\w=w'):=by
  have HP:Hid (Calls Tryz.prog 74 #[.string (mk l),.string ⟨#[c]⟩] w fun e w'=>e=.returned (.bool (hd l==c))/\w=w'):=hasPL_any l c w hl hc;by_cases h:hd l=c
  ·have hq:(hd l==c)=true:=by simpa using h
   rw[hq]at HP |-;rw[if_pos h];have hne:l≠[]:=by rintro rfl;exact hc h.symm
   have hl1:1<=l.length:=List.length_pos_iff.2 hne;have hext:(mk l).extract 1 l.length=mk (l.drop 1):=by rw[mk_ext];congr 1;rw[List.take_of_length_le (by simp)]
   have HE:Hid (mk (l.drop 1)=mk (l.drop 1)):=rfl;generalize mk (l.drop 1)=T at *;clear h hq hne;go_enter Tryz.func99,Tryz.ntmps99;go_wp2_with fail;refine HP.out.mono ?_;rintro e w' ⟨rfl,rfl⟩;go_wp2;exact bodyPost_ret (v:=.tuple #[.string T,.bool true]) (by simp[results,Tryz.results99,go_sem]) rfl ⟨rfl,rfl⟩
  ·have hq:(hd l==c)=false:=by simpa using h
   rw[hq]at HP |-;rw[if_neg h];clear h hq;go_enter Tryz.func99,Tryz.ntmps99;go_wp2_with fail;refine HP.out.mono ?_;rintro e w' ⟨rfl,rfl⟩;go_wp2;exact bodyPost_ret (v:=.tuple #[.string (mk l),.bool false]) (by simp[results,Tryz.results99,go_sem]) rfl ⟨rfl,rfl⟩
 generalize (if hd l=c then l.drop 1 else l)=g at *;generalize (hd l==c)=q at *;go_enter Tryz.func72,Tryz.ntmps72;go_wp2_with fail;refine HL.out.mono ?_;rintro e w' ⟨rfl,rfl⟩;go_wp2;exact bodyPost_ret (v:=.tuple #[.string (mk g),.bool q]) (by simp[results,Tryz.results72,go_sem]) rfl ⟨rfl,rfl⟩
def itR (l:Ln):Ln:=if isIt l=true then gaps (l.drop 1)else []
def itN (l:Ln):Nat:=if isIt l=true then l.length-(gaps (l.drop 1)).length else 0
theorem gapsL (l:Ln):(gaps l).length<=l.length:=gaps_len l
theorem item0_any (l:Ln) (w:World) (hl:l.length<=140737488355328):Calls Tryz.prog 53 #[.string (mk l)] w fun e w'=>e=.returned (.tuple #[.string (mk (itR l)),.int .i64 (itN l:Int),.bool (isIt l)])/\w=w':=by
 have hsz:=mk_size l;have HC:Hid (Calls Tryz.prog 72 #[.string (mk l),.string ⟨#[45]⟩] w fun e w'=>e=.returned (.tuple #[.string (mk (if hd l=45 then l.drop 1 else l)),.bool (hd l==45)])/\w=w'):=cutPrefix_any l 45 w hl (by decide);by_cases h:hd l=45
 ·rw[if_pos h,show (hd l==45)=true by simpa using h]at HC;have hd1:(l.drop 1).length<=l.length:=by rw[List.length_drop];omega
  have HE:Hid (Calls Tryz.prog 75 #[.string (mk (l.drop 1))] w fun e w'=>e=.returned (.bool (eMk (l.drop 1)))/\w=w'):=endsMark_any _ w (by omega);have HI:Hid (isIt l=eMk (l.drop 1)):=by unfold isIt;rw[show (hd l==45)=true by simpa using h];exact Bool.true_and _
  cases hm:eMk (l.drop 1)
  ·rw[hm]at HE HI;have HR:Hid (itR l=[]/\itN l=0):=by unfold itR itN;rw[HI.out];exact⟨rfl,rfl⟩
   rw[HR.out.1,HR.out.2,HI.out];generalize l.drop 1=r at *;clear h hm;go_enter Tryz.func53,Tryz.ntmps53;go_wp2_with (first | (go_at_call 72;refine HC.out.mono ?_;rintro e w' ⟨rfl,rfl⟩) | (go_at_call 75;refine HE.out.mono ?_;rintro e w' ⟨rfl,rfl⟩));exact bodyPost_ret (v:=.tuple #[.string ⟨#[]⟩,.int .i64 0,.bool false]) (by simp[results,Tryz.results53,go_sem]) rfl ⟨rfl,rfl⟩
  ·rw[hm]at HE HI;have HR:Hid (itR l=gaps (l.drop 1)/\itN l=l.length-(gaps (l.drop 1)).length):=by unfold itR itN;rw[HI.out];exact⟨rfl,rfl⟩
   rw[HR.out.1,HR.out.2,HI.out];have HW:Hid (Calls Tryz.prog 49 #[.string (mk (l.drop 1))] w fun e w'=>e=.returned (.string (mk (gaps (l.drop 1))))/\w=w'):=withoutBlanks_any _ w (by omega);have hg:=gapsL (l.drop 1);have hgz:=mk_size (gaps (l.drop 1));have hcast:((l.length-(gaps (l.drop 1)).length:Nat):Int)=(l.length:Int)-((gaps (l.drop 1)).length:Int):=by omega
   rw[hcast];generalize gaps (l.drop 1)=g at *;generalize l.drop 1=r at *;clear h hm hcast HR HI;go_enter Tryz.func53,Tryz.ntmps53;go_wp2_with (first | (go_at_call 72;refine HC.out.mono ?_;rintro e w' ⟨rfl,rfl⟩) | (go_at_call 75;refine HE.out.mono ?_;rintro e w' ⟨rfl,rfl⟩) | (go_at_call 49;refine HW.out.mono ?_;rintro e w' ⟨rfl,rfl⟩));exact bodyPost_ret (v:=.tuple #[.string (mk g),.int .i64 ((l.length:Int)-(g.length:Int)),.bool true]) (by simp[results,Tryz.results53,go_sem]) rfl ⟨rfl,rfl⟩
 ·have HI:Hid (isIt l=false):=by unfold isIt;rw[show (hd l==45)=false by simpa using h];exact rfl
  have HR:Hid (itR l=[]/\itN l=0):=by unfold itR itN;rw[HI.out];exact⟨rfl,rfl⟩
  rw[HR.out.1,HR.out.2,HI.out];rw[if_neg h,show (hd l==45)=false by simpa using h]at HC;clear h;go_enter Tryz.func53,Tryz.ntmps53;go_wp2_with (go_at_call 72;refine HC.out.mono ?_;rintro e w' ⟨rfl,rfl⟩);exact bodyPost_ret (v:=.tuple #[.string ⟨#[]⟩,.int .i64 0,.bool false]) (by simp[results,Tryz.results53,go_sem]) rfl ⟨rfl,rfl⟩
theorem isItem_any (l:Ln) (w:World) (hl:l.length<=140737488355328):Calls Tryz.prog 34 #[.string (mk l)] w fun e w'=>e=.returned (.bool (isIt l))/\w=w':=by
 have HI:Hid (Calls Tryz.prog 53 #[.string (mk l)] w fun e w'=>e=.returned (.tuple #[.string (mk (itR l)),.int .i64 (itN l:Int),.bool (isIt l)])/\w=w'):=item0_any l w hl;generalize isIt l=q at *;generalize itR l=r at *;generalize (itN l:Int)=n at *;go_enter Tryz.func34,Tryz.ntmps34;go_wp2_with fail;refine HI.out.mono ?_;rintro e w' ⟨rfl,rfl⟩;go_wp2;go_ret;exact⟨rfl,rfl⟩
def mvd (c:Int) (n:Nat):Int:=if c<=9223372036854775807-(n:Int)then c+(n:Int)else 9223372036854775807
theorem moved_any (c:Int) (n:Nat) (w:World) (hc: -9223372036854775808<=c) (hc2:c<=9223372036854775807) (hn:n<=9223372036854775807):Calls Tryz.prog 55 #[.int .i64 c,.int .i64 (n:Int)] w fun e w'=>e=.returned (.int .i64 (mvd c n))/\w=w':=by
 by_cases h:c<=9223372036854775807-(n:Int)
 ·have HV:Hid (mvd c n=c+(n:Int)):=if_pos h;rw[HV.out];go_enter Tryz.func55,Tryz.ntmps55;go_wp2;go_ret;exact⟨by simp,rfl⟩
 ·have HV:Hid (mvd c n=9223372036854775807):=if_neg h;rw[HV.out];go_enter Tryz.func55,Tryz.ntmps55;go_wp2;go_ret;exact⟨by simp,rfl⟩
end Tre
end Go.Proofs.YtidhpmcmbooaoaaGreatDoor
