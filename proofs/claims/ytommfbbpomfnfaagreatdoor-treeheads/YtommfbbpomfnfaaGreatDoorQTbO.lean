/- . -/
import Derived.Test.YtommfbbpomfnfaaGreatDoorQFbE
import Derived.Test.YtommfbbpomfnfaaGreatDoorQFbG
import Derived.Test.YtommfbbpomfnfaaGreatDoorQFlowProp
import Derived.Test.YtommfbbpomfnfaaGreatDoorQFbN
set_option linter.unusedSimpArgs false
set_option linter.unusedVariables false
set_option maxRecDepth 100000
namespace Go.Proofs.YtommfbbpomfnfaaGreatDoor
namespace Tre
open Utf Rws Pln Flw
open Go.RowKit
set_option maxHeartbeats 4000000
def tgw (l:Ln):Int :=
 if l=[33,33,110,117,108,108]then 1 else if l=[33,33,98,111,111,108]then 2 else if l=[33,33,105,110,116]then 3 else if l=[33,33,115,116,114]then 4
 else if l=[33,33,115,101,113]then 5 else if l=[33,33,109,97,112]then 6 else 0
structure Pp where
 anc:Ln
 tag:Int
def wth (p:Pp) (l:Ln):Pp :=
 if hd l=38 then (if p.anc=[]/\isName (l.drop 1)=true then ⟨l.drop 1,p.tag⟩else p)else if p.tag=0 then ⟨p.anc,tgw l⟩else p
theorem eqL (l c:Ln):((mk l).toList==c)=decide (l=c):=by rw[ByteArray.toList_eq,mk_data,Bool.eq_iff_iff];simp
theorem kindOf_any (l:Ln) (w:World):Calls Tryz.prog 171 #[.string (mk l)] w fun e w'=>e=.returned (.int .i64 (tgw l))/\w=w':=by
 have e1:=eqL l [33,33,110,117,108,108];have e2:=eqL l [33,33,98,111,111,108];have e3:=eqL l [33,33,105,110,116];have e4:=eqL l [33,33,115,116,114];have e5:=eqL l [33,33,115,101,113];have e6:=eqL l [33,33,109,97,112]
 have HV:Hid (tgw l=if l=[33,33,110,117,108,108]then 1 else if l=[33,33,98,111,111,108]then 2 else if l=[33,33,105,110,116]then 3 else if l=[33,33,115,116,114]then 4
  else if l=[33,33,115,101,113]then 5 else if l=[33,33,109,97,112]then 6 else 0):=rfl
 by_cases h1:l=[33,33,110,117,108,108]
 ·rw[if_pos h1]at HV;rw[decide_eq_true h1]at e1;clear e2 e3 e4 e5 e6 h1;go_enter Tryz.func171,Tryz.ntmps171;go_wp2;go_ret;exact⟨by rw[HV.out];rfl,rfl⟩
 rw[if_neg h1]at HV;rw[decide_eq_false h1]at e1;by_cases h2:l=[33,33,98,111,111,108]
 ·rw[if_pos h2]at HV;rw[decide_eq_true h2]at e2;clear e3 e4 e5 e6 h1 h2;go_enter Tryz.func171,Tryz.ntmps171;go_wp2;go_ret;exact⟨by rw[HV.out];rfl,rfl⟩
 rw[if_neg h2]at HV;rw[decide_eq_false h2]at e2;by_cases h3:l=[33,33,105,110,116]
 ·rw[if_pos h3]at HV;rw[decide_eq_true h3]at e3;clear e4 e5 e6 h1 h2 h3;go_enter Tryz.func171,Tryz.ntmps171;go_wp2;go_ret;exact⟨by rw[HV.out];rfl,rfl⟩
 rw[if_neg h3]at HV;rw[decide_eq_false h3]at e3;by_cases h4:l=[33,33,115,116,114]
 ·rw[if_pos h4]at HV;rw[decide_eq_true h4]at e4;clear e5 e6 h1 h2 h3 h4;go_enter Tryz.func171,Tryz.ntmps171;go_wp2;go_ret;exact⟨by rw[HV.out];rfl,rfl⟩
 rw[if_neg h4]at HV;rw[decide_eq_false h4]at e4;by_cases h5:l=[33,33,115,101,113]
 ·rw[if_pos h5]at HV;rw[decide_eq_true h5]at e5;clear e6 h1 h2 h3 h4 h5;go_enter Tryz.func171,Tryz.ntmps171;go_wp2;go_ret;exact⟨by rw[HV.out];rfl,rfl⟩
 rw[if_neg h5]at HV;rw[decide_eq_false h5]at e5;by_cases h6:l=[33,33,109,97,112]
 ·rw[if_pos h6]at HV;rw[decide_eq_true h6]at e6;clear h1 h2 h3 h4 h5 h6;go_enter Tryz.func171,Tryz.ntmps171;go_wp2;go_ret;exact⟨by rw[HV.out];rfl,rfl⟩
 ·rw[if_neg h6]at HV;rw[decide_eq_false h6]at e6;clear h1 h2 h3 h4 h5 h6;go_enter Tryz.func171,Tryz.ntmps171;go_wp2;go_ret;exact⟨by rw[HV.out];rfl,rfl⟩
abbrev pV (p:Pp):Value:=.agg #[.string (mk p.anc),.int .i64 p.tag]
theorem with_any (p:Pp) (l:Ln) (w:World) (hl:l.length<=140737488351232) (hp: -9223372036854775808<=p.tag/\p.tag<=9223372036854775807):Calls Tryz.prog 146 #[pV p,.string (mk l)] w fun e w'=>e=.returned (pV (wth p l))/\Below w.heap.size w w':=by
 obtain⟨a,t⟩:=p;have HC:Hid (∀ w0,Calls Tryz.prog 22 #[.string (mk l),.string ⟨#[38]⟩] w0 fun e w'=>e=.returned (.tuple #[.string (mk (if hd l=38 then l.drop 1 else l)),.bool (hd l==38)])/\w0=w'):=fun w0=>cutPrefix_any l 38 w0 (by omega) (by decide)
 have HK:Hid (∀ w0,Calls Tryz.prog 171 #[.string (mk l)] w0 fun e w'=>e=.returned (.int .i64 (tgw l))/\w0=w'):=fun w0=>kindOf_any l w0
 have HN:Hid (∀ w0,Calls Tryz.prog 144 #[.string (mk (l.drop 1))] w0 fun e w'=>e=.returned (.bool (isName (l.drop 1)))/\w0=w'):=fun w0=>name0_any _ w0 (by rw[List.length_drop];omega)
 have e1:((mk a).toList==[])=(a==[]):=by rw[ByteArray.toList_eq,mk_data]
 have e2:(mk a).toList.isEmpty=(a==[]):=by rw[ByteArray.toList_eq,mk_data];cases a<;>rfl
 by_cases h38:hd l=38
 ·rw[if_pos h38,show (hd l==38)=true by simpa using h38]at HC;cases ha:(a==[])
  ·have ha2:a≠[]:=by simpa using ha
   have HV:Hid (wth ⟨a,t⟩ l=⟨a,t⟩):=by unfold wth;rw[if_pos h38,if_neg (fun h=>ha2 h.1)];exact rfl
   rw[HV.out];rw[ha]at e1 e2;clear HV h38 ha ha2;generalize l.drop 1=d at *;go_enter Tryz.func146,Tryz.ntmps146;go_wp2_with (first | (go_at_call 22;refine(HC.out _).mono ?_;rintro e w' ⟨rfl,rfl⟩) | (go_at_call 171;refine(HK.out _).mono ?_;rintro e w' ⟨rfl,rfl⟩) | (go_at_call 144;refine(HN.out _).mono ?_;rintro e w' ⟨rfl,rfl⟩));exact bodyPost_ret (v:=.agg #[.string (mk a),.int .i64 (t)]) (by simp[results,Tryz.results146,go_sem]) rfl ⟨rfl,(below_alloc _ _).trans ((below_alloc _ _).mono (by simp))⟩
  ·have ha2:a=[]:=by simpa using ha
   rw[ha]at e1 e2;cases hn:isName (l.drop 1)
   ·have HV:Hid (wth ⟨a,t⟩ l=⟨a,t⟩):=by unfold wth;rw[if_pos h38,if_neg (fun h=>by rw[hn]at h;cases h.2)];exact rfl
    rw[HV.out];rw[hn]at HN;clear HV h38 ha ha2 hn;generalize l.drop 1=d at *;go_enter Tryz.func146,Tryz.ntmps146;go_wp2_with (first | (go_at_call 22;refine(HC.out _).mono ?_;rintro e w' ⟨rfl,rfl⟩) | (go_at_call 171;refine(HK.out _).mono ?_;rintro e w' ⟨rfl,rfl⟩) | (go_at_call 144;refine(HN.out _).mono ?_;rintro e w' ⟨rfl,rfl⟩));exact bodyPost_ret (v:=.agg #[.string (mk a),.int .i64 (t)]) (by simp[results,Tryz.results146,go_sem]) rfl ⟨rfl,(below_alloc _ _).trans ((below_alloc _ _).mono (by simp))⟩
   ·have HV:Hid (wth ⟨a,t⟩ l=⟨l.drop 1,t⟩):=by unfold wth;rw[if_pos h38,if_pos ⟨ha2,hn⟩];exact rfl
    rw[HV.out];rw[hn]at HN;clear HV h38 ha ha2 hn;generalize l.drop 1=d at *;go_enter Tryz.func146,Tryz.ntmps146;go_wp2_with (first | (go_at_call 22;refine(HC.out _).mono ?_;rintro e w' ⟨rfl,rfl⟩) | (go_at_call 171;refine(HK.out _).mono ?_;rintro e w' ⟨rfl,rfl⟩) | (go_at_call 144;refine(HN.out _).mono ?_;rintro e w' ⟨rfl,rfl⟩));exact bodyPost_ret (v:=.agg #[.string (mk d),.int .i64 (t)]) (by simp[results,Tryz.results146,go_sem]) rfl ⟨rfl,(below_alloc _ _).trans ((below_alloc _ _).mono (by simp))⟩
 ·rw[if_neg h38,show (hd l==38)=false by simpa using h38]at HC;by_cases ht:t=0
  ·subst ht;have HV:Hid (wth ⟨a,0⟩ l=⟨a,tgw l⟩):=by unfold wth;rw[if_neg h38,if_pos rfl];exact rfl
   rw[HV.out];clear HV h38 e1 e2;generalize tgw l=k at *;go_enter Tryz.func146,Tryz.ntmps146;go_wp2_with (first | (go_at_call 22;refine(HC.out _).mono ?_;rintro e w' ⟨rfl,rfl⟩) | (go_at_call 171;refine(HK.out _).mono ?_;rintro e w' ⟨rfl,rfl⟩) | (go_at_call 144;refine(HN.out _).mono ?_;rintro e w' ⟨rfl,rfl⟩));exact bodyPost_ret (v:=.agg #[.string (mk a),.int .i64 (k)]) (by simp[results,Tryz.results146,go_sem]) rfl ⟨rfl,(below_alloc _ _).trans ((below_alloc _ _).mono (by simp))⟩
  ·have HV:Hid (wth ⟨a,t⟩ l=⟨a,t⟩):=by unfold wth;rw[if_neg h38,if_neg ht];exact rfl
   have ht0:(t==0)=false:=by simpa using ht
   rw[HV.out];clear HV h38 e1 e2 ht;go_enter Tryz.func146,Tryz.ntmps146;go_wp2_with (first | (go_at_call 22;refine(HC.out _).mono ?_;rintro e w' ⟨rfl,rfl⟩) | (go_at_call 171;refine(HK.out _).mono ?_;rintro e w' ⟨rfl,rfl⟩) | (go_at_call 144;refine(HN.out _).mono ?_;rintro e w' ⟨rfl,rfl⟩));exact bodyPost_ret (v:=.agg #[.string (mk a),.int .i64 (t)]) (by simp[results,Tryz.results146,go_sem]) rfl ⟨rfl,(below_alloc _ _).trans ((below_alloc _ _).mono (by simp))⟩
/-! ### strings.Cut at a blank -/
def wrd (l:Ln):Ln:=l.takeWhile (· != 32)
def beh (l:Ln):Ln:=l.drop ((wrd l).length+1)
theorem wrd_take (l:Ln):l.take (wrd l).length=wrd l:=by
 induction l with
 | nil=>rfl
 | cons b r ih =>
  unfold wrd at *;rw[List.takeWhile_cons];split
  ·simp only[List.length_cons,List.take_succ_cons,ih]
  ·rfl
theorem wrd_no {l:Ln} (h:has 32 l=false):wrd l=l:=by
 induction l with
 | nil=>rfl
 | cons b r ih =>
  unfold has at h;simp only[List.any_cons,Bool.or_eq_false_iff]at h;unfold wrd at *;rw[List.takeWhile_cons,if_pos (by simpa using h.1),ih (by unfold has;exact h.2)]
theorem wrd_le (l:Ln):(wrd l).length<=l.length:=by
 have:=congrArg List.length (wrd_take l);rw[List.length_take]at this;omega
theorem index32_any (s:ByteArray) (w:World):Calls Tryz.prog 198 #[.string s,.string ⟨#[32]⟩] w fun e w'=>e=.returned (.int .i64 (idx 32 s.data.toList))/\w=w':=by
 by_cases hs:s=⟨#[32]⟩
 ·subst hs;go_enter Tryz.func198,Tryz.ntmps198;go_wp2;go_ret;exact⟨by simp[idx,has],rfl⟩
 ·have hne:([32]==s.toList)=false:=by
   rw[beq_eq_false_iff_ne];intro h;apply hs;rw[ByteArray.toList_eq]at h;rw[<-mk_of s,<-h];rfl
  go_enter Tryz.func198,Tryz.ntmps198;go_wp2_with (first | (go_at_call 169;refine(indexByteL_any _ 32 _).mono ?_;rintro e w' ⟨rfl,rfl⟩));go_ret;exact⟨rfl,rfl⟩
theorem cutL_any (l:Ln) (w:World) (hs:l.length<=140737488355328):Calls Tryz.prog 170 #[.string (mk l),.string ⟨#[32]⟩] w fun e w'=>e=.returned (.tuple #[.string (mk (wrd l)),.string (mk (beh l)),.bool (has 32 l)])/\Below w.heap.size w w':=by
 have hsz:=mk_size l;have H:Hid ((mk l).size=l.length):=hsz;clear hsz;cases hh:has 32 l
 ·have hi:idx 32 l= -1:=idx_no hh
  have HC:Hid (mk (wrd l)=mk l/\mk (beh l)=⟨#[]⟩):=by
   have e:=wrd_no hh;refine⟨by rw[e],?_⟩;unfold beh;rw[e,List.drop_eq_nil_of_le (by omega)];rfl
  rw[HC.out.1,HC.out.2];go_enter Tryz.func170,Tryz.ntmps170;go_wp2_with (first | (go_at_call 198;refine(index32_any _ _).mono ?_;rintro e w' ⟨rfl,rfl⟩;rw[mk_data,hi]));exact bodyPost_ret (v:=.tuple #[.string (mk l),.string ⟨#[]⟩,.bool false]) (by simp[results,Tryz.results170,go_sem]) rfl ⟨rfl,Below.refl _ _⟩
 ·have hi:idx 32 l=((wrd l).length:Int):=idx_yes hh;have hlt:(wrd l).length<(mk l).size:=by rw[H.out];exact take_lt hh
  have hle:(mk l).size<=140737488355328:=by rw[H.out];exact hs
  have HC:Hid (mk (wrd l)=(mk l).extract 0 (wrd l).length/\mk (beh l)=(mk l).extract ((wrd l).length+1) (mk l).size):=by
   refine⟨?_,?_⟩
   ·rw[mk_ext,List.drop_zero,Nat.sub_zero,wrd_take]
   ·rw[mk_ext,List.take_of_length_le (by rw[H.out,List.length_drop];omega)];rfl
  rw[HC.out.1,HC.out.2];generalize (wrd l).length=n at *;go_enter Tryz.func170,Tryz.ntmps170;go_wp2_with (first | (go_at_call 198;refine(index32_any _ _).mono ?_;rintro e w' ⟨rfl,rfl⟩;rw[mk_data,hi]));go_region
  all_goals go_wp2
  exact bodyPost_ret (v:=.tuple #[.string ((mk l).extract 0 n),.string ((mk l).extract (n+1) (mk l).size),.bool true]) (by simp[results,Tryz.results170,go_sem]) rfl ⟨rfl,(Below.refl _ _).drew⟩
theorem cut32_any (l:Ln) (w:World) (hs:l.length<=140737488355328):Calls Tryz.prog 145 #[.string (mk l),.string ⟨#[32]⟩] w fun e w'=>e=.returned (.tuple #[.string (mk (wrd l)),.string (mk (beh l)),.bool (has 32 l)])/\Below w.heap.size w w':=by
 have HC:=cutL_any l w hs;generalize mk (wrd l)=a at *;generalize mk (beh l)=b at *;generalize has 32 l=q at *;go_enter Tryz.func145,Tryz.ntmps145;go_wp2_with (first | (go_at_call 170;refine HC.mono ?_;rintro e w' ⟨rfl,hb⟩));exact bodyPost_ret (v:=.tuple #[.string a,.string b,.bool q]) (by simp[results,Tryz.results145,go_sem]) rfl ⟨rfl,hb⟩
end Tre
namespace Tre
open Utf Rws Pln Flw
open Go.RowKit
set_option maxHeartbeats 4000000
def samePp (p q:Pp):Bool:=p.anc==q.anc && p.tag==q.tag
theorem samePp_eq {p q:Pp} (h:samePp p q=true):p=q:=by
 obtain⟨a,b⟩:=p;obtain⟨c,d⟩:=q;simp only[samePp,Bool.and_eq_true,beq_iff_eq]at h;rw[h.1,h.2]
def cpr:Nat->Pp->Ln->Pp × Ln
 | 0,p,l=>(p,gaps l)
 | n+1,p,l=>if samePp (wth p (wrd (gaps l))) p=true then (p,gaps l)else cpr n (wth p (wrd (gaps l))) (beh (gaps l))
def mu (p:Pp):Nat:=(if p.anc=[]then 1 else 0)+(if p.tag=0 then 1 else 0)
theorem name_ne {a:Ln} (h:isName a=true):a≠[]:=by rintro rfl;cases h
theorem mu_wth (p:Pp) (l:Ln) (h:samePp (wth p l) p=false):mu (wth p l)<mu p:=by
 obtain⟨a,t⟩:=p;unfold wth at h |-;by_cases h38:hd l=38
 ·rw[if_pos h38]at h |-;by_cases hn:a=[]/\isName (l.drop 1)=true
  ·rw[if_pos hn]at h |-;have:=name_ne hn.2;show (if l.drop 1=[]then 1 else 0)+(if t=0 then 1 else 0)<(if a=[]then 1 else 0)+(if t=0 then 1 else 0);rw[if_neg this,if_pos hn.1];omega
  ·rw[if_neg hn]at h;simp[samePp]at h
 ·rw[if_neg h38]at h |-;by_cases ht:t=0
  ·rw[if_pos ht]at h |-;have hk:tgw l≠0:=fun e=>by rw[e]at h;simp[samePp,ht]at h
   show (if a=[]then 1 else 0)+(if tgw l=0 then 1 else 0)<(if a=[]then 1 else 0)+(if t=0 then 1 else 0);rw[if_neg hk,if_pos ht];omega
  ·rw[if_neg ht]at h;simp[samePp]at h
theorem cpr_fuel:∀ (n:Nat) (p:Pp) (l:Ln),mu p<n->cpr n p l=cpr (mu p+1) p l
 | 0,p,l,h=>by omega
 | n+1,p,l,h=>by
  rw[cpr,cpr];cases hs:samePp (wth p (wrd (gaps l))) p
  ·have hm:=mu_wth p _ hs;rw[if_neg (by decide),if_neg (by decide),cpr_fuel n _ _ (by omega)];by_cases e:mu p=mu (wth p (wrd (gaps l)))+1
   ·rw[e]
   ·have h2:=cpr_fuel (mu p) (wth p (wrd (gaps l))) (beh (gaps l));rw[h2 (by omega)]
  ·rw[if_pos rfl,if_pos rfl]
def CP (p:Pp) (l:Ln):Pp × Ln:=cpr (mu p+1) p l
theorem CP_end {p:Pp} {l:Ln} (h:samePp (wth p (wrd (gaps l))) p=true):CP p l=(p,gaps l):=by unfold CP;rw[cpr,if_pos h]
theorem CP_step {p:Pp} {l:Ln} (h:samePp (wth p (wrd (gaps l))) p=false):CP p l=CP (wth p (wrd (gaps l))) (beh (gaps l)):=by
 unfold CP;rw[cpr,if_neg (by rw[h];decide)];exact cpr_fuel _ _ _ (mu_wth p _ h)
theorem eql_props (x y:ByteArray) (a b:Int) (w:World):(binOp .eql 77 (.agg #[.string x,.int .i64 a]) (.agg #[.string y,.int .i64 b])).run Tryz.prog w=.ok (.bool (x.toList==y.toList && a==b)) w:=by
 rw[run_eql_struct,run_equalIn_struct w 9999 77 _ _ (by kernel_rfl) (by kernel_rfl)];cases h1:x.toList==y.toList<;>cases h2:a==b<;>simp[go_sem,Program.fieldsOf,Tryz.underlying77,Tryz.underlying9,Tryz.underlying3,h1,h2]
def muW (K:Nat) (w:World):Nat:=(match w.cell? ⟨K,0,none⟩with | some (.string s)=>if s.size=0 then 1 else 0 | _=>0)+(match w.cell? ⟨K,1,none⟩with | some (.int _ t)=>if t=0 then 1 else 0 | _=>0)
theorem muW_is {K:Nat} {w:World} {q:Pp} (h:Bx w K #[.string (mk q.anc),.int .i64 q.tag] 77):muW K w=mu q:=by
 obtain⟨c0,c1⟩:=h.c2;unfold muW mu;rw[c0,c1];simp only[mk_size];cases q.anc<;>simp
theorem tgw_bd (l:Ln):0<=tgw l/\tgw l<=6:=by
 unfold tgw
 repeat' split
 all_goals decide
theorem wth_bd (p:Pp) (l:Ln) (h:0<=p.tag/\p.tag<=6):0<=(wth p l).tag/\(wth p l).tag<=6:=by
 unfold wth;split
 ·split
  ·exact h
  ·exact h
 ·split
  ·exact tgw_bd l
  ·exact h
theorem beh_le (l:Ln):(beh l).length<=l.length:=by unfold beh;rw[List.length_drop];omega
theorem cutProperties_any (l:Ln) (w:World) (hl:l.length<=140737488351232):Calls Tryz.prog 110 #[.string (mk l)] w fun e w'=>e=.returned (.tuple #[pV (CP ⟨[],0⟩ l).1,.string (mk (CP ⟨[],0⟩ l).2)])/\Below w.heap.size w w':=by
 have b1:=below_alloc w (.cells #[.string ⟨#[]⟩,.int .i64 0] 77);have s1:(w.alloc (.cells #[.string ⟨#[]⟩,.int .i64 0] 77)).heap.size=w.heap.size+1:=World.size_alloc _ _;have b2:=below_alloc (w.alloc (.cells #[.string ⟨#[]⟩,.int .i64 0] 77)) (.cells #[.string ⟨#[]⟩,.int .i64 0] 77);have n1:=(Bx.new w #[.string ⟨#[]⟩,.int .i64 0] 77).later b2;have n2:=Bx.new (w.alloc (.cells #[.string ⟨#[]⟩,.int .i64 0] 77)) #[.string ⟨#[]⟩,.int .i64 0] 77;rw[s1]at n2;have B0:=b1.trans (b2.mono b1.size);go_enter Tryz.func110,Tryz.ntmps110;go_wp2;generalize (w.alloc (.cells #[.string ⟨#[]⟩,.int .i64 0] 77)).alloc (.cells #[.string ⟨#[]⟩,.int .i64 0] 77)=W at n1 n2 B0 |-;obtain⟨K1,hK1⟩:∃ K1,K1=w.heap.size+1:=⟨_,rfl⟩;obtain⟨K0,hK0⟩:∃ K0,K0=w.heap.size:=⟨_,rfl⟩;rw[<-hK1]at n2 |-;rw[<-hK0]at n1 |-;have HN1:Hid (Bx W K0 #[.string ⟨#[]⟩,.int .i64 0] 77):=n1;have HN2:Hid (Bx W K1 #[.string ⟨#[]⟩,.int .i64 0] 77):=n2;have HB0:Hid (Below w.heap.size w W):=B0;have hne:K0≠K1:=by omega
 have hne':K1≠K0:=by omega
 have HK0:Hid (K0=w.heap.size):=hK0;have HK1:Hid (K1=w.heap.size+1):=hK1;clear n1 n2 B0 b1 b2 s1 hK0 hK1
 go_loopw [0] (fun ur wr=>∃ (q:Pp) (r:Ln),ur=.string (mk r)/\Hid (r.length<=l.length/\(0<=q.tag/\q.tag<=6)/\Bx wr K0 #[.string ⟨#[]⟩,.int .i64 0] 77/\Bx wr K1 #[.string (mk q.anc),.int .i64 q.tag] 77/\Below w.heap.size w wr/\CP ⟨[],0⟩ l=CP q r)) (fun _ wr=>muW K1 wr)
 case atStart=>exact⟨⟨[],0⟩,l,rfl,Nat.le_refl _,⟨by decide,by decide⟩,HN1.out,HN2.out,HB0.out,rfl⟩
 case round =>
  obtain⟨q,r,rfl,HR⟩:=hrel;have hrl:=HR.out.1;have hgl:=gaps_len r;have hwl:=wrd_le (gaps r);have HWB:Hid (Calls Tryz.prog 24 #[.string (mk r)] wr fun e w'=>e=.returned (.string (mk (gaps r)))/\wr=w'):=withoutBlanks_any r wr (by omega);have HCU:Hid (Calls Tryz.prog 145 #[.string (mk (gaps r)),.string ⟨#[32]⟩] wr fun e w'=>e=.returned (.tuple #[.string (mk (wrd (gaps r))),.string (mk (beh (gaps r))),.bool (has 32 (gaps r))])/\Hid (Below wr.heap.size wr w')):=cut32_any _ wr (by omega);have HWT:Hid (∀ w0,Calls Tryz.prog 146 #[.agg #[.string (mk q.anc),.int .i64 q.tag],.string (mk (wrd (gaps r)))] w0 fun e w'=>e=.returned (.agg #[.string (mk (wth q (wrd (gaps r))).anc),.int .i64 (wth q (wrd (gaps r))).tag])/\Hid (Below w0.heap.size w0 w')):=fun w0=>with_any q _ w0 (by omega) (by have:=HR.out.2.1;omega)
  have HEQ:Hid (((mk (wth q (wrd (gaps r))).anc).toList==(mk q.anc).toList && (wth q (wrd (gaps r))).tag==q.tag)=samePp (wth q (wrd (gaps r))) q):=by unfold samePp;rw[beq_mk];exact rfl
  have he:=eql_props (mk (wth q (wrd (gaps r))).anc) (mk q.anc) (wth q (wrd (gaps r))).tag q.tag;rw[HEQ.out]at he;have hbd:=wth_bd q (wrd (gaps r)) HR.out.2.1;have hbl:=beh_le (gaps r);have HM:Hid (muW K1 wr=mu q):=muW_is HR.out.2.2.2.1;cases hs:samePp (wth q (wrd (gaps r))) q
  ·rw[hs]at he;have HST:Hid (CP ⟨[],0⟩ l=CP (wth q (wrd (gaps r))) (beh (gaps r))/\mu (wth q (wrd (gaps r)))<mu q):=⟨HR.out.2.2.2.2.2.trans (CP_step hs),mu_wth q _ hs⟩;obtain⟨q',HQ'⟩:∃ q',Hid (wth q (wrd (gaps r))=q'):=⟨_,rfl⟩;rw[HQ'.out]at HST HWT he hbd;obtain⟨p0,p1⟩:=HR.out.2.2.2.1.c2;clear hs HEQ;go_wp2_with fail;refine HWB.out.mono ?_;rintro e w' ⟨rfl,rfl⟩;go_wp2_with fail;refine HCU.out.mono ?_;rintro e w2 ⟨rfl,H2⟩;have x2:=HR.out.2.2.2.1.later H2.out;obtain⟨y0,y1⟩:=x2.c2;clear x2;go_wp2_with fail;refine(HWT.out w2).mono ?_;rintro e w3 ⟨rfl,H3⟩
   have N4:Hid (∀ w4,w4=w3.alloc (.cells #[.string (mk q'.anc),.int .i64 q'.tag] 77)->Bx w4 K0 #[.string ⟨#[]⟩,.int .i64 0] 77/\Bx w4 K1 #[.string (mk q.anc),.int .i64 q.tag] 77/\Below w.heap.size w w4/\Bx w4 w3.heap.size #[.string (mk q'.anc),.int .i64 q'.tag] 77):=fun w4 e=>by
    subst e;have b23:=H2.out.trans (H3.out.mono H2.out.size);have b34:=below_alloc w3 (.cells #[.string (mk q'.anc),.int .i64 q'.tag] 77);have b:=b23.trans (b34.mono b23.size);exact⟨HR.out.2.2.1.later b,HR.out.2.2.2.1.later b,HR.out.2.2.2.2.1.trans (b.mono HR.out.2.2.2.2.1.size),Bx.new _ _ _⟩
   go_upto_region 5 with fail
   have N5:=N4.out _ rfl;clear N4;generalize w3.alloc (.cells #[.string (mk q'.anc),.int .i64 q'.tag] 77)=w4 at N5 |-;generalize w3.heap.size=K2 at *;obtain⟨x0,x1⟩:=N5.2.1.c2;obtain⟨m0,m1⟩:=N5.2.2.2.c2;obtain⟨t0,t1⟩:=N5.1.c2;have f0:=N5.2.1.fz 0;have f1:=N5.2.1.fz 1;have f2:=N5.1.fz 0;have f3:=N5.1.fz 1;clear y0 y1 p0 p1
   have HOUT:Hid (Bx ((w4.setCell ⟨K1,0,none⟩ (.string (mk q'.anc))).setCell ⟨K1,1,none⟩ (.int .i64 q'.tag)) K0 #[.string ⟨#[]⟩,.int .i64 0] 77/\Bx ((w4.setCell ⟨K1,0,none⟩ (.string (mk q'.anc))).setCell ⟨K1,1,none⟩ (.int .i64 q'.tag)) K1 #[.string (mk q'.anc),.int .i64 q'.tag] 77/\Below w.heap.size w ((w4.setCell ⟨K1,0,none⟩ (.string (mk q'.anc))).setCell ⟨K1,1,none⟩ (.int .i64 q'.tag))) :=
    ⟨(N5.1.other hne _ _).other hne _ _,(N5.2.1.set 0 (.string (mk q'.anc))).set 1 (.int .i64 q'.tag),(N5.2.2.1.setCell (by have:=HK1.out;show _<=K1;omega) _).setCell (by have:=HK1.out;show _<=K1;omega) _⟩
   have HREL:Hid (∀ W',W'=((w4.setCell ⟨K1,0,none⟩ (.string (mk q'.anc))).setCell ⟨K1,1,none⟩ (.int .i64 q'.tag))->(beh (gaps r)).length<=l.length/\(0<=q'.tag/\q'.tag<=6)/\Bx W' K0 #[.string ⟨#[]⟩,.int .i64 0] 77/\Bx W' K1 #[.string (mk q'.anc),.int .i64 q'.tag] 77/\Below w.heap.size w W'/\CP ⟨[],0⟩ l=CP q' (beh (gaps r))/\muW K1 W'<muW K1 wr):=fun W' e=>by
    subst e;exact⟨by omega,hbd,HOUT.out.1,HOUT.out.2.1,HOUT.out.2.2,HST.out.1,by rw[HM.out,muW_is HOUT.out.2.1];exact HST.out.2⟩
   clear N5 HR HST HM HOUT hbd;go_wp2;go_roundw
   case rel =>
    have h:=HREL.out _ rfl;exact⟨q',beh (gaps r),rfl,h.1,h.2.1,h.2.2.1,h.2.2.2.1,h.2.2.2.2.1,h.2.2.2.2.2.1⟩
   case measure=>exact(HREL.out _ rfl).2.2.2.2.2.2
  ·rw[hs]at he;have HST:Hid (CP ⟨[],0⟩ l=(q,gaps r)):=HR.out.2.2.2.2.2.trans (CP_end hs);obtain⟨q',HQ'⟩:∃ q',Hid (wth q (wrd (gaps r))=q'):=⟨_,rfl⟩;rw[HQ'.out]at HWT he hbd;obtain⟨p0,p1⟩:=HR.out.2.2.2.1.c2;clear hs HEQ;go_wp2_with fail;refine HWB.out.mono ?_;rintro e w' ⟨rfl,rfl⟩;go_wp2_with fail;refine HCU.out.mono ?_;rintro e w2 ⟨rfl,H2⟩;have x2:=HR.out.2.2.2.1.later H2.out;obtain⟨y0,y1⟩:=x2.c2;clear x2;go_wp2_with fail;refine(HWT.out w2).mono ?_;rintro e w3 ⟨rfl,H3⟩
   have N4:Hid (∀ w4,w4=w3.alloc (.cells #[.string (mk q'.anc),.int .i64 q'.tag] 77)->Bx w4 K0 #[.string ⟨#[]⟩,.int .i64 0] 77/\Bx w4 K1 #[.string (mk q.anc),.int .i64 q.tag] 77/\Below w.heap.size w w4/\Bx w4 w3.heap.size #[.string (mk q'.anc),.int .i64 q'.tag] 77):=fun w4 e=>by
    subst e;have b23:=H2.out.trans (H3.out.mono H2.out.size);have b34:=below_alloc w3 (.cells #[.string (mk q'.anc),.int .i64 q'.tag] 77);have b:=b23.trans (b34.mono b23.size);exact⟨HR.out.2.2.1.later b,HR.out.2.2.2.1.later b,HR.out.2.2.2.2.1.trans (b.mono HR.out.2.2.2.2.1.size),Bx.new _ _ _⟩
   go_upto_region 5 with fail
   have N5:=N4.out _ rfl;clear N4;generalize w3.alloc (.cells #[.string (mk q'.anc),.int .i64 q'.tag] 77)=w4 at N5 |-;generalize w3.heap.size=K2 at *;obtain⟨x0,x1⟩:=N5.2.1.c2;obtain⟨m0,m1⟩:=N5.2.2.2.c2;obtain⟨t0,t1⟩:=N5.1.c2;have f0:=N5.2.1.fz 0;have f1:=N5.2.1.fz 1;have f2:=N5.1.fz 0;have f3:=N5.1.fz 1;clear y0 y1 p0 p1
   have HOUT:Hid (∀ W',W'=((w4.setCell ⟨K0,0,none⟩ (.string (mk q.anc))).setCell ⟨K0,1,none⟩ (.int .i64 q.tag))->Bx W' K0 #[.string (mk q.anc),.int .i64 q.tag] 77/\Below w.heap.size w W'):=fun W' e=>by
    subst e;exact⟨(N5.1.set 0 (.string (mk q.anc))).set 1 (.int .i64 q.tag),(N5.2.2.1.setCell (by have:=HK0.out;show _<=K0;omega) _).setCell (by have:=HK0.out;show _<=K0;omega) _⟩
   clear N5 HR HM hbd;go_wp2;have h:=HOUT.out _ rfl;clear HOUT;generalize (w4.setCell ⟨K0,0,none⟩ (.string (mk q.anc))).setCell ⟨K0,1,none⟩ (.int .i64 q.tag)=W5 at h |-;obtain⟨j0,j1⟩:=h.1.c2;refine bodyPost_ret (v:=.tuple #[.agg #[.string (mk q.anc),.int .i64 q.tag],.string (mk (gaps r))]) (by simp[results,Tryz.results110,go_sem,j0,j1]) rfl ⟨?_,h.2⟩;rw[HST.out]
end Tre
end Go.Proofs.YtommfbbpomfnfaaGreatDoor
