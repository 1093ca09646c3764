/- . -/
import Derived.Test.YtommfbbpomfnfaaGreatDoorQFbF
import Derived.Test.YtommfbbpomfnfaaGreatDoorQFbJ
import Derived.Test.YtommfbbpomfnfaaGreatDoorQFbA
import Derived.BigQuiet
import Derived.Deep.QuietTactic
set_option linter.unusedSimpArgs false
set_option linter.unusedVariables false
set_option maxRecDepth 100000
namespace Go.Proofs.YtommfbbpomfnfaaGreatDoor
namespace Utf
open Go.RowKit
theorem ret_bool {a b:Bool} (h:a=b):Ending.returned (.bool a)=.returned (.bool b):=by rw[h]
theorem rsign_any (n:Int) (w:World):Calls Tryz.prog 85 #[.int .i64 n] w fun e w'=>e=.returned (.bool (sgn n))/\w=w':=by
 have hs:Hid (sgn n=(decide (0<=n) && decide (n<=1114111) && !(decide (55296<=n) && decide (n<=57343)))):=rfl;rcases(show n<0\/1114111<n\/(0<=n/\n<55296)\/(55296<=n/\n<=57343)\/(57343<n/\n<=1114111) by omega)with h | h | h | h | h
 ·have e:sgn n=false:=by rw[hs.out];simp;omega
  rw[e];clear e hs;go_enter Tryz.func85,Tryz.ntmps85;go_wp2;go_ret;exact⟨ret_bool (by first | rfl | (simp;omega)),rfl⟩
 ·have e:sgn n=false:=by rw[hs.out];simp;omega
  rw[e];clear e hs;have h0:0<=n:=by omega
  go_enter Tryz.func85,Tryz.ntmps85;go_wp2;go_ret;exact⟨ret_bool (by first | rfl | (simp;omega)),rfl⟩
 ·have e:sgn n=true:=by rw[hs.out];simp;omega
  rw[e];clear e hs;obtain⟨h1,h2⟩:=h;go_enter Tryz.func85,Tryz.ntmps85;go_wp2;go_ret;exact⟨ret_bool (by first | rfl | (simp;omega)),rfl⟩
 ·have e:sgn n=false:=by rw[hs.out];simp;omega
  rw[e];clear e hs;obtain⟨h1,h2⟩:=h;go_enter Tryz.func85,Tryz.ntmps85;go_wp2;go_ret;exact⟨ret_bool (by first | rfl | (simp;omega)),rfl⟩
 ·have e:sgn n=true:=by rw[hs.out];simp;omega
  rw[e];clear e hs;obtain⟨h1,h2⟩:=h;go_enter Tryz.func85,Tryz.ntmps85;go_wp2;go_ret;exact⟨ret_bool (by first | rfl | (simp;omega)),rfl⟩
theorem prn_rng (n:Int) (h1:n≠9) (h2:n≠10) (h3:n≠13) (h4:n≠133) (h5:n≠65279):prn n=decide ((32<=n/\n<=126)\/(160<=n/\n<=55295)\/(57344<=n/\n<=65533)\/(65536<=n/\n<=1114111)):=by
 unfold prn inR;have e1:(n==9)=false:=by simpa using h1
 have e2:(n==10)=false:=by simpa using h2
 have e3:(n==13)=false:=by simpa using h3
 have e4:(n==133)=false:=by simpa using h4
 have e5:(n==65279)=false:=by simpa using h5
 rw[e1,e2,e3,e4,e5];simp[Bool.or_assoc]
set_option maxHeartbeats 2000000 in
theorem rprintable_any (n:Int) (w:World):Calls Tryz.prog 90 #[.int .i64 n] w fun e w'=>e=.returned (.bool (prn n))/\w=w':=by
 by_cases h1:n=9
 ·subst h1;go_enter Tryz.func90,Tryz.ntmps90;go_wp2;go_ret;exact⟨ret_bool (by decide +kernel),rfl⟩
 by_cases h2:n=10
 ·subst h2;go_enter Tryz.func90,Tryz.ntmps90;go_wp2;go_ret;exact⟨ret_bool (by decide +kernel),rfl⟩
 by_cases h3:n=13
 ·subst h3;go_enter Tryz.func90,Tryz.ntmps90;go_wp2;go_ret;exact⟨ret_bool (by decide +kernel),rfl⟩
 by_cases h4:n=133
 ·subst h4;go_enter Tryz.func90,Tryz.ntmps90;go_wp2;go_ret;exact⟨ret_bool (by decide +kernel),rfl⟩
 by_cases h5:n=65279
 ·subst h5;go_enter Tryz.func90,Tryz.ntmps90;go_wp2;go_ret;exact⟨ret_bool (by decide +kernel),rfl⟩
 have hr:=prn_rng n h1 h2 h3 h4 h5;have e1:(n==9)=false:=by simpa using h1
 have e2:(n==10)=false:=by simpa using h2
 have e3:(n==13)=false:=by simpa using h3
 have e4:(n==133)=false:=by simpa using h4
 have e5:(n==65279)=false:=by simpa using h5
 clear h1 h2 h3 h4 h5;rcases(show n<32\/(32<=n/\n<=126)\/(126<n/\n<160)\/(160<=n/\n<=55295)\/(55295<n/\n<57344)\/(57344<=n/\n<=65533)\/(65533<n/\n<65536)\/(65536<=n/\n<=1114111)\/1114111<n by omega)with h | h | h | h | h | h | h | h | h
 ·have e:prn n=false:=by rw[hr];simp;omega
  rw[e];clear e hr;go_enter Tryz.func90,Tryz.ntmps90;go_wp2;go_ret;exact⟨ret_bool (by first | rfl | (simp;omega)),rfl⟩
 ·obtain⟨h1,h2⟩:=h;have e:prn n=true:=by rw[hr];simp;omega
  rw[e];clear e hr;go_enter Tryz.func90,Tryz.ntmps90;go_wp2;go_ret;exact⟨ret_bool (by first | rfl | (simp;omega)),rfl⟩
 ·obtain⟨h1,h2⟩:=h;have e:prn n=false:=by rw[hr];simp;omega
  rw[e];clear e hr;go_enter Tryz.func90,Tryz.ntmps90;go_wp2;go_ret;exact⟨ret_bool (by first | rfl | (simp;omega)),rfl⟩
 ·obtain⟨h1,h2⟩:=h;have e:prn n=true:=by rw[hr];simp;omega
  rw[e];clear e hr;go_enter Tryz.func90,Tryz.ntmps90;go_wp2;go_ret;exact⟨ret_bool (by first | rfl | (simp;omega)),rfl⟩
 ·obtain⟨h1,h2⟩:=h;have e:prn n=false:=by rw[hr];simp;omega
  rw[e];clear e hr;go_enter Tryz.func90,Tryz.ntmps90;go_wp2;go_ret;exact⟨ret_bool (by first | rfl | (simp;omega)),rfl⟩
 ·obtain⟨h1,h2⟩:=h;have e:prn n=true:=by rw[hr];simp;omega
  rw[e];clear e hr;go_enter Tryz.func90,Tryz.ntmps90;go_wp2;go_ret;exact⟨ret_bool (by first | rfl | (simp;omega)),rfl⟩
 ·obtain⟨h1,h2⟩:=h;have e:prn n=false:=by rw[hr];simp;omega
  rw[e];clear e hr;go_enter Tryz.func90,Tryz.ntmps90;go_wp2;go_ret;exact⟨ret_bool (by first | rfl | (simp;omega)),rfl⟩
 ·obtain⟨h1,h2⟩:=h;have e:prn n=true:=by rw[hr];simp;omega
  rw[e];clear e hr;go_enter Tryz.func90,Tryz.ntmps90;go_wp2;go_ret;exact⟨ret_bool (by first | rfl | (simp;omega)),rfl⟩
 ·have e:prn n=false:=by rw[hr];simp;omega
  rw[e];clear e hr;go_enter Tryz.func90,Tryz.ntmps90;go_wp2;go_ret;exact⟨ret_bool (by first | rfl | (simp;omega)),rfl⟩
theorem rbytes_any (n:Int) (w:World) (h0:0<=n) (h1:n<=1114111):Calls Tryz.prog 88 #[.int .i64 n] w fun e w' =>
  e=.returned (.slice (some ⟨w.heap.size,0,none⟩) (byt n).length (byt n).length)/\w.alloc (.cells ((byt n).map (Value.int .u8)).toArray 5)=w':=by
 rcases byt_parts h0 h1 with ⟨e,c⟩ | ⟨e,c,c'⟩ | ⟨e,c,c'⟩ | ⟨e,c⟩<;>rw[e]<;>clear e
 all_goals
  go_enter Tryz.func88,Tryz.ntmps88;go_wp2;go_ret;exact⟨rfl,rfl⟩
end Utf
namespace Utf
open Go.RowKit
def fb (m:Nat):Int:=if m=1 then 0 else if m=2 then 192 else if m=3 then 224 else 240
def gss (l:List UInt8) (m:Nat):Nat->Int
 | 0=>((l.getD 0 0).toNat:Int)-fb m
 | k+1=>gss l m k*64+((l.getD (k+1) 0).toNat:Int)-128
theorem fb_bd (m:Nat):0<=fb m/\fb m<=240:=by
 unfold fb;split;· decide
 split;· decide
 split<;>decide
theorem gss_bd (l:List UInt8) (m k:Nat) (hk:k<=3): -100000000<=gss l m k/\gss l m k<=100000000:=by
 have hf:=fb_bd m;have b0:=(l.getD 0 0).toNat_lt;have b1:=(l.getD 1 0).toNat_lt;have b2:=(l.getD 2 0).toNat_lt;have b3:=(l.getD 3 0).toNat_lt;rcases(show k=0\/k=1\/k=2\/k=3 by omega)with rfl | rfl | rfl | rfl<;>simp only[gss,Nat.zero_add,Nat.reduceAdd]<;>omega
set_option maxHeartbeats 1000000 in
theorem guess_any (s:ByteArray) (m:Nat) (w:World) (hs:s.size<=maxLen) (h1:1<=m) (h4:m<=4) (hm:m<=s.size) :
  Calls Tryz.prog 87 #[.string s,.int .i64 m] w fun e w'=>e=.returned (.int .i64 (gss s.data.toList m (m-1)))/\Below w.heap.size w w':=by
 unfold maxLen at hs;have hd:=getD_byte s 0 (by omega);have hb0:(s[0].toNat:Int)<256:=by have:=s[0].toNat_lt;omega
 have hp:0<s.size:=by omega
 have H0:Hid (gss s.data.toList m 0=(s[0].toNat:Int)-fb m):=by show _=_;rw[<-hd];rfl
 clear hd
 have hcell:(w.alloc (Obj.cells #[Value.int IntKind.i64 0,Value.int IntKind.i64 0,Value.int IntKind.i64 192,Value.int IntKind.i64 224,Value.int IntKind.i64 240] 3)).cell? ⟨w.heap.size,m,none⟩=some (.int .i64 (fb m)):=by
  rw[cell_of_row _ w.heap.size m _ 3 (0,0) (heap_alloc_new w _)];rcases(show m=1\/m=2\/m=3\/m=4 by omega)with rfl | rfl | rfl | rfl<;>rfl
 have hfb:=fb_bd m;go_enter Tryz.func87,Tryz.ntmps87;go_wp2;go_quiet (fail);go_wp2;clear hcell
 go_loop [6,7] (fun g i=>∃ k:Nat,1<=k/\k<=m/\i=.int .i64 k/\g=.int .i64 (gss s.data.toList m (k-1))) (fun _ i=>(4-intOf i).toNat)
 case atStart=>exact⟨1,by omega,by omega,rfl,by rw[<-H0.out]⟩
 case round =>
  obtain⟨k,hk1,hk2,rfl,rfl⟩:=hrel;have hg:=gss_bd s.data.toList m (k-1) (by omega);by_cases hlt:k<m
  ·have hks:k<s.size:=by omega
   have hbk:(s[k].toNat:Int)<256:=by have:=s[k].toNat_lt;omega
   have HS:Hid (gss s.data.toList m k=gss s.data.toList m (k-1)*64+(s[k].toNat:Int)-128):=by
    rw[<-getD_byte s k hks];obtain⟨j,rfl⟩:∃ j,k=j+1:=⟨k-1,by omega⟩;rfl
   go_wp2;go_round
   case rel=>exact⟨k+1,by omega,by omega,by go_num,by rw[Nat.add_sub_cancel,HS.out]⟩
   case measure=>simp[intOf];omega
  ·go_wp2;go_ret;have e:k=m:=by omega
   subst e;exact⟨rfl,below_drewN ((Below.refl _ _).alloc (Nat.le_refl _) _) _⟩
theorem strOf_extract (s:ByteArray) (k:Nat) (h:k<=s.size):(s.extract 0 k).toList=s.data.toList.take k:=by
 have e:s=⟨s.data.toList.toArray⟩:=by simp
 rw[ByteArray.toList_eq]
 conv=>lhs;rw[e]
 rw[ByteArray.extract_mk];simp
def pref (n:Int) (l:List UInt8):Bool:=l.take (byt n).length==u8s (byt n)
theorem begins_any (s:ByteArray) (n:Int) (w:World) (hs:s.size<=maxLen) (h0:0<=n) (h1:n<=1114111) (hl:(byt n).length<=s.size) :
  Calls Tryz.prog 89 #[.string s,.int .i64 n] w fun e w'=>e=.returned (.bool (pref n s.data.toList))/\Below w.heap.size w w':=by
 have hx:=strOf_extract s _ hl;have hsz:=strOfNums_size (byt n)
 have hcv:∀ w:World,(convert 82 9 (.slice (some ⟨w.heap.size,0,none⟩) (byt n).length (byt n).length)).run Tryz.prog (w.alloc (.cells ((byt n).map (Value.int .u8)).toArray 5))=.ok (.string (strOfNums (byt n))) (w.alloc (.cells ((byt n).map (Value.int .u8)).toArray 5)):=by
  intro w;refine run_convert_bytes_arg _ 82 5 Tryz.underlying82 Tryz.underlying5 w.heap.size 0 _ _ (byt n) rfl ?_ 9 Tryz.underlying9;intro i hi;rw[Nat.zero_add,cell_of_row _ w.heap.size i _ 5 (0,0) (heap_alloc_new w _)];simp[List.getD_eq_getElem?_getD,List.getElem?_eq_getElem hi]
 have HP:Hid (pref n s.data.toList=(s.data.toList.take (byt n).length==u8s (byt n))):=rfl;have h4:=(byt_len n).2;unfold maxLen at hs;go_enter Tryz.func89,Tryz.ntmps89;go_wp2_with (first | (go_at_call 88;refine(rbytes_any _ _ h0 h1).mono ?_;rintro e w' ⟨rfl,rfl⟩));go_ret;exact⟨ret_bool (by rw[HP.out,ByteArray.toList_eq];rfl),(Below.refl _ _).alloc (Nat.le_refl _) _⟩
def cond (l:List UInt8) (m:Nat):Bool:=sgn (gss l m (m-1)) && ((byt (gss l m (m-1))).length==m) && pref (gss l m (m-1)) l
theorem gss_enc {n:Int} (h0:0<=n) (h1:n<=1114111) (r:List UInt8):gss (u8s (byt n)++r) (byt n).length ((byt n).length-1)=n:=by
 rcases byt_parts h0 h1 with ⟨e,c⟩ | ⟨e,c,c'⟩ | ⟨e,c,c'⟩ | ⟨e,c⟩<;>rw[e] <;>
  simp only[u8s,List.map_cons,List.map_nil,List.length_cons,List.length_nil,List.cons_append,List.nil_append,gss,List.getD_cons_zero,List.getD_cons_succ,Nat.zero_add,Nat.reduceAdd,Nat.reduceSub,fb,Nat.reduceEqDiff,if_true,if_false]
 ·rw[toNat_u8 h0 (by omega)];omega
 ·rw[toNat_u8 (by omega) (by omega),toNat_u8 (by omega) (by omega)];omega
 ·rw[toNat_u8 (by omega) (by omega),toNat_u8 (by omega) (by omega),toNat_u8 (by omega) (by omega)];omega
 ·rw[toNat_u8 (by omega) (by omega),toNat_u8 (by omega) (by omega),toNat_u8 (by omega) (by omega),toNat_u8 (by omega) (by omega)];omega
theorem rf_yes (l:List UInt8) (m:Nat) (h:cond l m=true):fst l=(gss l m (m-1),(m:Int)):=by
 unfold cond pref at h;simp only[Bool.and_eq_true,beq_iff_eq]at h;obtain⟨⟨h1,h2⟩,h3⟩:=h;have e:l=u8s (byt (gss l m (m-1)))++l.drop (byt (gss l m (m-1))).length:=by rw[<-h3];exact(List.take_append_drop _ _).symm
 have hf:=fst_enc h1 (l.drop (byt (gss l m (m-1))).length);rw[<-e]at hf;rw[hf,h2]
theorem fst_neg (l:List UInt8) (h:l≠[]) (hn:(fst l).1<0):fst l=(-1,1):=by
 have h0:l.length≠0:=fun e=>h (List.eq_nil_iff_length_eq_zero.2 e)
 unfold fst at hn |-;rw[if_neg h0]at hn |-;split at hn
 ·rename_i c;rw[if_pos c]
 ·rename_i c;rw[if_neg c];split at hn
  ·rename_i d;have:=sgn_bd d.2.1;simp only at hn;omega
  ·rename_i d;rw[if_neg d]
theorem rf_no (l:List UInt8) (h:l≠[]) (hc:∀ j,1<=j->j<=4->j<=l.length->cond l j=false):fst l=(-1,1):=by
 by_cases hn:(fst l).1<0
 ·exact fst_neg l h hn
 ·exfalso;obtain⟨s1,s2,s3⟩:=fst_sound l (by omega);obtain⟨b0,b1,_⟩:=sgn_bd s1;have hl:=byt_len (fst l).1;have hb:=fst_bd l;have hg:=gss_enc b0 b1 (l.drop (byt (fst l).1).length);rw[<-s3]at hg;have:=hc (byt (fst l).1).length hl.1 hl.2 (by omega);unfold cond pref at this;rw[hg,s1]at this;simp at this;apply this
  have key:∀ (n:Int) (r:List UInt8),l=u8s (byt n)++r->l.take (byt n).length=u8s (byt n):=by
   intro n r e;have e2:(byt n).length=(u8s (byt n)).length:=by simp[u8s]
   rw[e,e2];exact List.take_left
  exact key _ _ s3
set_option maxHeartbeats 1000000 in
theorem rfirst_any (s:ByteArray) (w:World) (hs:s.size<=maxLen):Calls Tryz.prog 50 #[.string s] w fun e w'=>e=.returned (.tuple #[.int .i64 (fst s.data.toList).1,.int .i64 (fst s.data.toList).2])/\Below w.heap.size w w':=by
 have hs':=hs;unfold maxLen at hs;by_cases h0:s.size=0
 ·have hie:s.toList.isEmpty=true:=by
   have:=len_data s;rw[ByteArray.toList_eq,List.isEmpty_iff,List.eq_nil_iff_length_eq_zero];omega
  have hf:=fst_nil s.data.toList (by rw[len_data];exact h0);rw[hf];clear hf;go_enter Tryz.func50,Tryz.ntmps50;go_wp2;go_ret2;exact⟨rfl,Below.refl _ _⟩
 ·have hp:0<s.size:=by omega
  have hie:s.toList.isEmpty=false:=by
   have:=len_data s;rw[ByteArray.toList_eq,Bool.eq_false_iff];intro h;rw[List.isEmpty_iff,List.eq_nil_iff_length_eq_zero]at h;omega
  have HNE:Hid (s.data.toList≠[]):=by
   intro e;have h:=len_data s;rw[e,List.length_nil]at h;omega
  clear h0;go_enter Tryz.func50,Tryz.ntmps50;go_wp2
  go_loopw [4] (fun i wr=>∃ k:Nat,1<=k/\k<=5/\i=.int .i64 k/\(∀ j,1<=j->j<k->cond s.data.toList j=false)/\Below w.heap.size w wr) (fun i _=>(5-intOf i).toNat)
  case atStart=>exact⟨1,by omega,by omega,rfl,fun j h h'=>by omega,Below.refl _ _⟩
  case round =>
   obtain⟨k,hk1,hk5,rfl,hc,hbe⟩:=hrel;have HC:Hid (∀ j,1<=j->j<k->cond s.data.toList j=false):=hc;clear hc;by_cases hlt:(k:Int)<=4
   ·by_cases hls:(k:Int)<=s.size
    ·have hks:k<=s.size:=by omega
     have hk4:k<=4:=by omega
     obtain⟨n,hn⟩:∃ n,n=gss s.data.toList k (k-1):=⟨_,rfl⟩;have HN:Hid (n=gss s.data.toList k (k-1)):=hn;have hcd:cond s.data.toList k=(sgn n && ((byt n).length==k) && pref n s.data.toList):=by unfold cond;rw[hn]
     have HCD:Hid (cond s.data.toList k=(sgn n && ((byt n).length==k) && pref n s.data.toList)):=hcd
     have HNX:Hid (cond s.data.toList k=false->∀ j,1<=j->j<k+1->cond s.data.toList j=false):=by
      intro hf j h1 h2;by_cases e:j=k
      ·subst e;exact hf
      ·exact HC.out j h1 (by omega)
     clear hn hcd;cases hsg:sgn n
     ·go_wp2_with fail;refine(guess_any s k _ hs' hk1 hk4 hks).mono ?_;rintro e w1 ⟨rfl,hb1⟩;rw[<-HN.out];go_wp2_with (first | (go_at_call 85;refine(rsign_any _ _).mono ?_;rintro e w' ⟨rfl,rfl⟩));go_roundw
      case rel=>exact⟨k+1,by omega,by omega,by go_num,HNX.out (by rw[HCD.out,hsg];rfl),hbe.trans (hb1.mono hbe.size)⟩
      case measure=>simp[intOf];omega
     ·obtain⟨b0,b1,_⟩:=sgn_bd hsg;by_cases hle:(byt n).length=k
      ·have hle':(((byt n).length:Int)==(k:Int))=true:=by simp;omega
       have hlk:(byt n).length<=s.size:=by omega
       have HLE:Hid ((byt n).length=k):=hle;clear hle;cases hpf:pref n s.data.toList
       ·go_wp2_with fail;refine(guess_any s k _ hs' hk1 hk4 hks).mono ?_;rintro e w1 ⟨rfl,hb1⟩;rw[<-HN.out];go_wp2_with (first | (go_at_call 85;refine(rsign_any _ _).mono ?_;rintro e w' ⟨rfl,rfl⟩) | (go_at_call 88;refine(rbytes_any _ _ b0 b1).mono ?_;rintro e w' ⟨rfl,rfl⟩) | (go_at_call 89;refine(begins_any _ _ _ hs' b0 b1 hlk).mono ?_;rintro e w3 ⟨rfl,hb3⟩));have sb1:=hb1.size;have sb:=hbe.size;go_roundw
        case rel=>exact⟨k+1,by omega,by omega,by go_num,HNX.out (by rw[HCD.out,hpf];simp),((hbe.trans (hb1.mono sb)).alloc (by omega) _).trans (hb3.mono (by simp;omega))⟩
        case measure=>simp[intOf];omega
       ·have HF:Hid (fst s.data.toList=(n,(k:Int))):=by
         have:=rf_yes s.data.toList k (by rw[HCD.out,hsg,hpf,HLE.out];simp);rw[<-HN.out]at this;exact this
        go_wp2_with fail;refine(guess_any s k _ hs' hk1 hk4 hks).mono ?_;rintro e w1 ⟨rfl,hb1⟩;rw[<-HN.out];go_wp2_with (first | (go_at_call 85;refine(rsign_any _ _).mono ?_;rintro e w' ⟨rfl,rfl⟩) | (go_at_call 88;refine(rbytes_any _ _ b0 b1).mono ?_;rintro e w' ⟨rfl,rfl⟩) | (go_at_call 89;refine(begins_any _ _ _ hs' b0 b1 hlk).mono ?_;rintro e w3 ⟨rfl,hb3⟩));have sb1:=hb1.size;have sb:=hbe.size;go_ret2;exact⟨by rw[HF.out];rfl,((hbe.trans (hb1.mono sb)).alloc (by omega) _).trans (hb3.mono (by simp;omega))⟩
      ·have hle':(((byt n).length:Int)==(k:Int))=false:=by simp;omega
       go_wp2_with fail;refine(guess_any s k _ hs' hk1 hk4 hks).mono ?_;rintro e w1 ⟨rfl,hb1⟩;rw[<-HN.out];go_wp2_with (first | (go_at_call 85;refine(rsign_any _ _).mono ?_;rintro e w' ⟨rfl,rfl⟩) | (go_at_call 88;refine(rbytes_any _ _ b0 b1).mono ?_;rintro e w' ⟨rfl,rfl⟩));have sb1:=hb1.size;have sb:=hbe.size;go_roundw
       case rel=>exact⟨k+1,by omega,by omega,by go_num,HNX.out (by rw[HCD.out];simp[hle]),(hbe.trans (hb1.mono sb)).alloc (by omega) _⟩
       case measure=>simp[intOf];omega
    ·have HF:Hid (fst s.data.toList=(-1,1)):=rf_no _ HNE.out fun j h1 h2 h3=>HC.out j h1 (by rw[len_data]at h3;omega)
     go_wp2;go_ret2;exact⟨by rw[HF.out];rfl,hbe⟩
   ·have HF:Hid (fst s.data.toList=(-1,1)):=rf_no _ HNE.out fun j h1 h2 h3=>HC.out j h1 (by omega)
    have hlt':decide ((k:Int)<=4)=false:=by simpa using hlt
    go_wp2;go_ret2;exact⟨by rw[HF.out];rfl,hbe⟩
end Utf
namespace Utf
open Go.RowKit
theorem rfirstAt_any (s:ByteArray) (p:Nat) (w:World) (hs:s.size<=maxLen):Calls Tryz.prog 50 #[.string (s.extract p s.size)] w fun e w'=>e=.returned (.tuple #[.int .i64 (fst (s.data.toList.drop p)).1,.int .i64 (fst (s.data.toList.drop p)).2])/\Below w.heap.size w w':=by
 have h:=rfirst_any (s.extract p s.size) w (by have e:=congrArg List.length (drop_data s p);rw[len_data,List.length_drop,len_data]at e;omega);rw[drop_data]at h;exact h
theorem prn_neg {n:Int} (h:n<0):prn n=false:=by
 rw[prn_rng n (by omega) (by omega) (by omega) (by omega) (by omega)];simp;omega
end Utf
namespace Utf
open Go.RowKit
theorem rcheck_any (s:ByteArray) (w:World) (hs:s.size<=maxLen):Calls Tryz.prog 53 #[.string s] w fun e w'=>e=.returned (.agg #[.int .i64 (why (chk s.data.toList)),.int .i64 (pos (chk s.data.toList))])/\Below w.heap.size w w':=by
 have hs':=hs;unfold maxLen at hs;go_enter Tryz.func53,Tryz.ntmps53;go_wp2
 go_loopw [3] (fun i wr=>∃ p:Nat,Below (w.heap.size+1) (w.alloc (.cells #[.int .i64 0,.int .i64 0] 34)) wr/\p<=s.size/\i=.int .i64 p/\chk s.data.toList=(chk (s.data.toList.drop p)).map (· + p)) (fun i _=>s.size-(intOf i).toNat)
 case atStart=>exact⟨0,Below.refl _ _,Nat.zero_le _,rfl,by simp⟩
 case round =>
  obtain⟨p,hbe,hp,rfl,hc⟩:=hrel;have HC:Hid (chk s.data.toList=(chk (s.data.toList.drop p)).map (· + p)):=hc;clear hc;have hc0:wr.cell? ⟨w.heap.size,0,none⟩=some (.int .i64 0):=(hbe.cell (p:=⟨w.heap.size,0,none⟩) (by simp)).trans (by rw[cell_of_row _ w.heap.size 0 _ _ (0,0) (heap_alloc_new w _)];rfl);have hc1:wr.cell? ⟨w.heap.size,1,none⟩=some (.int .i64 0):=(hbe.cell (p:=⟨w.heap.size,1,none⟩) (by simp)).trans (by rw[cell_of_row _ w.heap.size 1 _ _ (0,0) (heap_alloc_new w _)];rfl);have hf0:wr.frozen? ⟨w.heap.size,0,none⟩=false:=(hbe.frozen (p:=⟨w.heap.size,0,none⟩) (by simp)).trans (by simp);have hf1:wr.frozen? ⟨w.heap.size,1,none⟩=false:=(hbe.frozen (p:=⟨w.heap.size,1,none⟩) (by simp)).trans (by simp);have hsz:w.heap.size+1<=wr.heap.size:=by have:=hbe.size;simpa using this
  by_cases hlt:p<s.size
  ·have hne:=drop_ne s p hlt;have hf:=fk_pos _ hne;have hcn:=chk_next _ hne;rw[List.drop_drop]at hcn;rw[List.length_drop,len_data]at hf;obtain⟨f1,f2,f3,f4⟩:=hf;have hb0:0<=(fst (s.data.toList.drop p)).2:=by omega
   have hb4:(fst (s.data.toList.drop p)).2<=4:=by omega
   have hb5:(p:Int)+(fst (s.data.toList.drop p)).2<=s.size:=by omega
   have H4:Hid (((fk (s.data.toList.drop p):Nat):Int)=(fst (s.data.toList.drop p)).2):=f4;clear f4 hne;cases hpr:prn (fst (s.data.toList.drop p)).1
   ·rw[hpr]at hcn;have HN:Hid (chk s.data.toList=some p):=by have:=HC.out;rw[hcn]at this;simp at this;exact this
    clear hcn;by_cases hneg:(fst (s.data.toList.drop p)).1<0
    ·have hneg':decide ((fst (s.data.toList.drop p)).1<0)=true:=by simpa using hneg
     go_wp2_with (first | (go_at_call 50;refine(rfirstAt_any _ _ _ hs').mono ?_;rintro e w1 ⟨rfl,hb1⟩;have ic0:=(hb1.cell (p:=⟨w.heap.size,0,none⟩) hsz).trans hc0;have ic1:=(hb1.cell (p:=⟨w.heap.size,1,none⟩) hsz).trans hc1;have if0:=(hb1.frozen (p:=⟨w.heap.size,0,none⟩) hsz).trans hf0;have if1:=(hb1.frozen (p:=⟨w.heap.size,1,none⟩) hsz).trans hf1) | (go_at_call 90;refine(rprintable_any _ _).mono ?_;rintro e w' ⟨rfl,rfl⟩));refine bodyPost_ret (v:=.agg #[.int .i64 8,.int .i64 p]) (by simp[results,Tryz.results53,go_sem,ic0,ic1]) rfl ⟨by rw[HN.out];rfl,?_⟩;exact((((Below.refl _ _).alloc (Nat.le_refl _) _).trans ((hbe.mono (Nat.le_succ _)).trans (hb1.mono (by omega)))).setCell (Nat.le_refl _) _).setCell (Nat.le_refl _) _
    ·have hneg':decide ((fst (s.data.toList.drop p)).1<0)=false:=by simpa using hneg
     go_wp2_with (first | (go_at_call 50;refine(rfirstAt_any _ _ _ hs').mono ?_;rintro e w1 ⟨rfl,hb1⟩;have ic0:=(hb1.cell (p:=⟨w.heap.size,0,none⟩) hsz).trans hc0;have ic1:=(hb1.cell (p:=⟨w.heap.size,1,none⟩) hsz).trans hc1;have if0:=(hb1.frozen (p:=⟨w.heap.size,0,none⟩) hsz).trans hf0;have if1:=(hb1.frozen (p:=⟨w.heap.size,1,none⟩) hsz).trans hf1) | (go_at_call 90;refine(rprintable_any _ _).mono ?_;rintro e w' ⟨rfl,rfl⟩));refine bodyPost_ret (v:=.agg #[.int .i64 8,.int .i64 p]) (by simp[results,Tryz.results53,go_sem,ic0,ic1]) rfl ⟨by rw[HN.out];rfl,?_⟩;exact((((Below.refl _ _).alloc (Nat.le_refl _) _).trans ((hbe.mono (Nat.le_succ _)).trans (hb1.mono (by omega)))).setCell (Nat.le_refl _) _).setCell (Nat.le_refl _) _
   ·rw[hpr]at hcn
    have HN:Hid (chk s.data.toList=(chk (s.data.toList.drop (p+fk (s.data.toList.drop p)))).map (· + (p+fk (s.data.toList.drop p)))):=by
     have:=HC.out;rw[hcn]at this;simp[Option.map_map]at this;rw[this];congr 1;funext x;simp;omega
    clear hcn;have hneg: ¬ (fst (s.data.toList.drop p)).1<0:=fun h=>by rw[prn_neg h]at hpr;cases hpr
    have hneg':decide ((fst (s.data.toList.drop p)).1<0)=false:=by simpa using hneg
    go_wp2_with (first | (go_at_call 50;refine(rfirstAt_any _ _ _ hs').mono ?_;rintro e w1 ⟨rfl,hb1⟩;have ic0:=(hb1.cell (p:=⟨w.heap.size,0,none⟩) hsz).trans hc0;have ic1:=(hb1.cell (p:=⟨w.heap.size,1,none⟩) hsz).trans hc1;have if0:=(hb1.frozen (p:=⟨w.heap.size,0,none⟩) hsz).trans hf0;have if1:=(hb1.frozen (p:=⟨w.heap.size,1,none⟩) hsz).trans hf1) | (go_at_call 90;refine(rprintable_any _ _).mono ?_;rintro e w' ⟨rfl,rfl⟩));have h4:=H4.out;go_roundw
    case rel=>exact⟨p+fk (s.data.toList.drop p),hbe.trans (hb1.mono (by omega)),by omega,by rw[<-H4.out];go_num,HN.out⟩
    case measure=>simp[intOf];omega
  ·have HN:Hid (chk s.data.toList=none):=by
    have:=HC.out;rw[List.drop_of_length_le (by rw[len_data];omega),chk_nil]at this;exact this
   go_wp2;refine bodyPost_ret (v:=.agg #[.int .i64 0,.int .i64 0]) (by simp[results,Tryz.results53,go_sem,hc0,hc1]) rfl ⟨by rw[HN.out];rfl,?_⟩;exact((((Below.refl _ _).alloc (Nat.le_refl _) _).trans (hbe.mono (Nat.le_succ _))).setCell (Nat.le_refl _) _).setCell (Nat.le_refl _) _
end Utf
namespace Utf
open Go.RowKit
theorem allS_short (zs:List Int) (k:Nat) (h:k<zs.length) (hn:sgn (zs.getD k 0)=false):encS zs=⟨#[]⟩/\encE zs=8 :=
 ⟨encS_no (allS_false zs k h hn),encE_no (allS_false zs k h hn)⟩
set_option maxHeartbeats 1000000 in
theorem rencode_any (a:Option Addr) (len cap:Nat) (zs:List Int) (w:World) (hz:Ints w a len zs) (hl:len<=17592186044416) :
  Calls Tryz.prog 86 #[.slice a len cap] w fun e w'=>e=.returned (.tuple #[.string (encS zs),.int .i64 (encE zs)])/\Below w.heap.size w w':=by
 have HZ:Hid (Ints w a len zs):=hz;have HL:Hid (len=zs.length):=hz.1;clear hz;obtain⟨i0,hi,hz0,hz1,hz2⟩:=info_parts Tryz.info5;go_enter Tryz.func86,Tryz.ntmps86;go_wp2
 go_loopw [4,5] (fun v i wr=>∃ k:Nat,k<=len/\i=.int .i64 k/\allS (zs.take k)=true/\wr.ownsRow w.heap.size 5 1 v (bytes (zs.take k)).length ((bytes (zs.take k)).map (Value.int .u8))/\Below w.heap.size w wr) (fun _ i _=>len-(intOf i).toNat)
 case atStart=>exact⟨0,Nat.zero_le _,rfl,rfl,World.ownsRow_nil _ _ _ _,Below.refl _ _⟩
 case round =>
  obtain⟨k,hk,rfl,ha,hown,hbe⟩:=hrel;have HA:Hid (allS (zs.take k)=true):=ha;clear ha;by_cases hlt:k<len
  ·obtain⟨b,off,rfl,hb,hc⟩:=HZ.out.2 (by omega);have hck:=(hbe.cell (p:=⟨b,off+k,none⟩) hb).trans (hc k hlt);have hkz:k<zs.length:=by rw[<-HL.out];exact hlt
   have hbl:=bytes_len (zs.take k);have hbl2:(bytes (zs.take k)).length<=4*k:=by have:=List.length_take_le k zs;omega
   have HBT:Hid (bytes (zs.take (k+1))=bytes (zs.take k)++byt (zs.getD k 0)):=bytes_take zs k hkz;have HAT:Hid (allS (zs.take (k+1))=(allS (zs.take k) && sgn (zs.getD k 0))):=allS_take zs k hkz;obtain⟨n,hn⟩:∃ n,n=zs.getD k 0:=⟨_,rfl⟩;have HSH:Hid (sgn n=false->encS zs=⟨#[]⟩/\encE zs=8):=fun h=>allS_short zs k hkz (by rw[<-hn];exact h)
   rw[<-hn]at hck HBT HAT;rw[HA.out]at HAT;clear hn hc hkz hbl;cases hsg:sgn n
   ·obtain⟨x1,x2⟩:=HSH.out hsg;have X1:Hid (encS zs=⟨#[]⟩):=x1;have X2:Hid (encE zs=8):=x2;clear x1 x2;go_wp2_with (first | (go_at_call 85;refine(rsign_any _ _).mono ?_;rintro e w' ⟨rfl,rfl⟩));go_ret2;exact⟨by rw[X1.out,X2.out];rfl,hbe⟩
   ·obtain⟨b0,b1,_⟩:=sgn_bd hsg;have h4:=byt_len n;have HXT:Hid (allS (zs.take (k+1))=true):=by have:=HAT.out;rw[hsg]at this;exact this
    clear HSH HAT;generalize bytes (zs.take k)=bs at *;go_wp2_with (first | (go_at_call 85;refine(rsign_any _ _).mono ?_;rintro e w' ⟨rfl,rfl⟩) | (go_at_call 88;refine(rbytes_any _ _ b0 b1).mono ?_;rintro e w' ⟨rfl,rfl⟩) | (at_builtin;refine wpList_append_own _ rfl _ _ 82 rfl w.heap.size 5 i0 (.int .u8 0) 1 1 Tryz.underlying82 hi hz0 hz1 hz2 rfl (by decide) _ _ _ rfl (hown.alloc _) ⟨wr.heap.size,0,none⟩ (byt n).length (byt n).length ((byt n).map (Value.int .u8)) rfl (by simp) (news_cells _ _ _) (news_one _) ?_ ?_ ?_ ?_))
    ·unfold maxLen;omega
    ·omega
    ·have:=hbe.size;simp;omega
    intro v' w1 hown' hgrow _;obtain⟨R1,R2⟩:=step (news:=byt n) hown hbe hown' hgrow rfl;clear hown' hgrow hown hbe hck;go_wp2;go_roundw
    case rel=>exact⟨k+1,by omega,by go_num,HXT.out,by rw[HBT.out];exact R1,R2⟩
    case measure=>simp[intOf];omega
  ·have e:zs.take k=zs:=List.take_of_length_le (by rw[<-HL.out];omega);have hA:=HA.out;rw[e]at hA hown;have X1:Hid (encS zs=strOfNums (bytes zs)):=encS_yes hA;have X2:Hid (encE zs=0):=encE_yes hA;have hcv:=conv_own hown;clear hA hown e;go_wp2;go_ret2;exact⟨by rw[X1.out,X2.out];rfl,hbe⟩
end Utf
end Go.Proofs.YtommfbbpomfnfaaGreatDoor
