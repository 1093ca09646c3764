/- . -/
import Derived.Test.YtidhpmcmbooaoaaGreatDoorR27BlockMem
import Derived.Test.YtidhpmcmbooaoaaGreatDoorR33BlockShelf
set_option linter.unusedSimpArgs false
set_option linter.unusedVariables false
set_option maxRecDepth 100000
namespace Go.Proofs.YtidhpmcmbooaoaaGreatDoor
namespace Blk
open Go.RowKit
open Rws (mk mk_data mk_size mk_of mk_ext mk_get mk_inj)
theorem mark_any (f:Bool) (c:Int) (w:World):Calls Tryz.prog 77 #[.agg #[.bool f,.int .i64 c]] w fun e w'=>e=.returned (.string (mk (mark f c)))/\Below w.heap.size w w':=by
 by_cases h1:c=1
 ·subst h1;cases f <;>
  ·go_enter Tryz.func77,Tryz.ntmps77;go_wp2;go_ret;exact⟨rfl,(Below.refl _ _).alloc (Nat.le_refl _) _⟩
 by_cases h2:c=2
 ·subst h2;cases f <;>
  ·go_enter Tryz.func77,Tryz.ntmps77;go_wp2;go_ret;exact⟨rfl,(Below.refl _ _).alloc (Nat.le_refl _) _⟩
 have e1:(c==1)=false:=by simpa using h1
 have e2:(c==2)=false:=by simpa using h2
 have HM:Hid (∀ f,mark f c=if f=true then [62]else [124]):=by intro f;unfold mark;rw[if_neg h1,if_neg h2];cases f<;>rfl
 clear h1 h2;cases f <;>
 ·go_enter Tryz.func77,Tryz.ntmps77;go_wp2;go_ret;refine⟨?_,(Below.refl _ _).alloc (Nat.le_refl _) _⟩;rw[HM.out];rfl
theorem between_any (e:Nat) (f:Bool) (w:World) (he:f=true->1<=e) (hb:e<=140737488355328) :
  Calls Tryz.prog 134 #[.int .i64 e,.bool f] w fun r w'=>r=.returned (.string (mk (btw e f)))/\Below w.heap.size w w':=by
 cases f
 ·have HB:Hid (btw e false=List.replicate e 10):=rfl;go_enter Tryz.func134,Tryz.ntmps134;go_wp2_with (first | (go_at_call 132;refine(rep_any 10 e _ hb).mono ?_;rintro e' w' ⟨rfl,hb'⟩));go_ret;rw[HB.out];exact⟨rfl,hb'⟩
 ·have h1:=he rfl;by_cases h:e=1
  ·subst h;go_enter Tryz.func134,Tryz.ntmps134;go_wp2;go_ret;exact⟨rfl,Below.refl _ _⟩
  ·have HB:Hid (btw e true=List.replicate (e-1) 10):=by unfold btw;rw[if_pos rfl,if_neg h];exact rfl
   obtain⟨m,rfl⟩:∃ m,e=m+1:=⟨e-1,by omega⟩;have hne:(((m+1:Nat):Int)==1)=false:=by simp;omega
   have hsub:((m+1:Nat):Int)-1=(m:Int):=by omega
   go_enter Tryz.func134,Tryz.ntmps134;go_wp2_with fail;refine(rep_any 10 m _ (by omega)).mono ?_;rintro e' w' ⟨rfl,hb'⟩;go_wp2;go_ret;rw[HB.out];exact⟨rfl,hb'⟩
theorem ending_any (c:Int) (n m:Nat) (w:World) (hn:n<=9223372036854775807) (hm:m<=140737488355327) :
  Calls Tryz.prog 107 #[.int .i64 c,.int .i64 n,.int .i64 m] w fun r w'=>r=.returned (.string (mk (List.replicate (ed c n m) 10)))/\Below w.heap.size w w':=by
 have key:∀ k:Nat,k=ed c n m->k<=m+1->Calls Tryz.prog 132 #[.string ⟨#[10]⟩,.int .i64 k] w fun r w'=>r=.returned (.string (mk (List.replicate (ed c n m) 10)))/\Below w.heap.size w w':=by
  intro k hk hle;rw[<-hk];exact rep_any 10 k w (by omega)
 have KEY:Hid (∀ k:Nat,k=ed c n m->k<=m+1->Calls Tryz.prog 132 #[.string ⟨#[10]⟩,.int .i64 k] w fun r w'=>r=.returned (.string (mk (List.replicate (ed c n m) 10)))/\Below w.heap.size w w'):=key;clear key;by_cases h1:c=1
 ·subst h1;have HE:Hid (0=ed 1 n m):=by unfold ed;simp[Hid]
  go_enter Tryz.func107,Tryz.ntmps107;by_cases h0:0<n <;>
  ·go_wp2_with (first | (go_at_call 132;refine(KEY.out 0 HE.out (by omega)).mono ?_;rintro e' w' ⟨rfl,hb'⟩));go_ret;exact⟨rfl,hb'⟩
 have e1:(c != 1)=true:=by simpa using h1
 by_cases h2:c=2
 ·subst h2;by_cases h0:0<n
  ·have HE:Hid (1+m=ed 2 n m):=by unfold ed;simp[Hid,h0]
   go_enter Tryz.func107,Tryz.ntmps107;go_wp2_with fail;have hk:=KEY.out (1+m) HE.out (by omega);rw[show ((1+m:Nat):Int)=1+(m:Int) by omega]at hk;refine hk.mono ?_;clear hk;rintro e' w' ⟨rfl,hb'⟩;go_wp2;go_ret;exact⟨rfl,hb'⟩
  ·have HE:Hid (m=ed 2 n m):=by unfold ed;simp[Hid,h0]
   go_enter Tryz.func107,Tryz.ntmps107;go_wp2_with (first | (go_at_call 132;refine(KEY.out m HE.out (by omega)).mono ?_;rintro e' w' ⟨rfl,hb'⟩));go_ret;exact⟨rfl,hb'⟩
 have e2:(c==2)=false:=by simpa using h2
 by_cases h0:0<n
 ·have HE:Hid (1=ed c n m):=by unfold ed;simp[Hid,h0,h1,h2]
  go_enter Tryz.func107,Tryz.ntmps107;go_wp2_with (first | (go_at_call 132;refine(KEY.out 1 HE.out (by omega)).mono ?_;rintro e' w' ⟨rfl,hb'⟩));go_ret;exact⟨rfl,hb'⟩
 ·have HE:Hid (0=ed c n m):=by unfold ed;simp[Hid,h0,h1,h2]
  go_enter Tryz.func107,Tryz.ntmps107;go_wp2_with (first | (go_at_call 132;refine(KEY.out 0 HE.out (by omega)).mono ?_;rintro e' w' ⟨rfl,hb'⟩));go_ret;exact⟨rfl,hb'⟩
theorem hasPrefixL_any (l:Ln) (c:UInt8) (w:World) (hl:l.length<=140737488355328):Calls Tryz.prog 74 #[.string (mk l),.string ⟨#[c]⟩] w fun e w'=>e=.returned (.bool (l.head?==some c))/\w=w':=by
 have hz:(⟨#[c]⟩:ByteArray).size=1:=rfl;have hc:(⟨#[c]⟩:ByteArray).toList=[c]:=by rw[ByteArray.toList_eq]
 cases l with
 | nil =>
  have hsz:(mk []).size=0:=rfl;go_enter Tryz.func74,Tryz.ntmps74;go_wp2;go_ret;exact⟨rfl,rfl⟩
 | cons b r =>
  have hsz:(mk (b::r)).size=r.length+1:=by rw[mk_size];rfl
  have hrl:r.length+1<=140737488355328:=hl;have ht:((mk (b::r)).extract 0 1).toList=[b]:=by rw[ByteArray.toList_eq,mk_ext,mk_data];simp
  go_enter Tryz.func74,Tryz.ntmps74;go_wp2;go_ret;refine⟨?_,rfl⟩;simp[ht,hc]
theorem hasPrefix_any (l:Ln) (c:UInt8) (w:World) (hl:l.length<=140737488355328):Calls Tryz.prog 52 #[.string (mk l),.string ⟨#[c]⟩] w fun e w'=>e=.returned (.bool (l.head?==some c))/\w=w':=by
 go_enter Tryz.func52,Tryz.ntmps52;go_wp2_with (first | (go_at_call 74;refine(hasPrefixL_any _ _ _ hl).mono ?_;rintro e w' ⟨rfl,rfl⟩));go_ret;exact⟨rfl,rfl⟩
end Blk
end Go.Proofs.YtidhpmcmbooaoaaGreatDoor
