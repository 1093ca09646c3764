/- . -/
import Derived.Test.YtalijhclfppohaaGreatDoorR03FlowMem
import Derived.Test.YtalijhclfppohaaGreatDoorR20RowsLeaf
import Derived.Test.YtalijhclfppohaaGreatDoorR05UtfLeaf
set_option linter.unusedSimpArgs false
set_option linter.unusedVariables false
set_option maxRecDepth 100000
namespace Go.Proofs.YtalijhclfppohaaGreatDoor
namespace Rws
open Utf
open Go.RowKit
theorem trimRightByte_any (l:List UInt8) (w:World) (hs:l.length<=140737488355328):Calls Tryz.prog 55 #[.string (mk l),.int .u8 32] w fun e w'=>e=.returned (.string (mk (trR is32 l)))/\w=w':=by
 go_enter Tryz.func55,Tryz.ntmps55;go_wp2
 go_loop [0] (fun u=>∃ m:List UInt8,u=.string (mk m)/\m.length<=l.length/\trR is32 l=trR is32 m) (fun u=>strLen u)
 case atStart=>exact⟨l,rfl,Nat.le_refl _,rfl⟩
 case round =>
  obtain⟨m,rfl,hm,ht⟩:=hrel;have HT:Hid (trR is32 l=trR is32 m):=ht;clear ht;by_cases h0:m=[]
  ·subst h0;have hz:(mk []).size=0:=rfl;go_wp2;go_ret;rw[HT.out];exact⟨rfl,rfl⟩
  ·obtain⟨r,b,rfl⟩:=snoc_ex m h0;have hsz:(mk (r++[b])).size=r.length+1:=by rw[mk_size];simp
   have hsl:r.length+1<=140737488355328:=by simp at hm;omega
   have hg:∀ h,(mk (r++[b]))[r.length]'h=b:=fun h=>by rw[mk_get];simp
   have hb32:=b32 b;cases hb:is32 b
   ·have HN:Hid (trR is32 (r++[b])=r++[b]):=by rw[trR_snoc,hb];rfl
    rw[hb]at hb32;go_wp2;go_ret;rw[HT.out,HN.out];exact⟨rfl,rfl⟩
   ·have HN:Hid (trR is32 (r++[b])=trR is32 r):=by rw[trR_snoc,hb];rfl
    rw[hb]at hb32;go_wp2;go_round
    case rel=>exact⟨r,by rw[mk_ext];simp[mk_size],by simp at hm;omega,HT.out.trans HN.out⟩
    case measure=>simp[strLen,mk_ext,mk_size]
set_option maxRecDepth 100000 in
theorem trimRight_any (l:List UInt8) (w:World) (hs:l.length<=140737488355328):Calls Tryz.prog 36 #[.string (mk l),.string ⟨#[32]⟩] w fun e w'=>e=.returned (.string (mk (trR is32 l)))/\w=w':=by
 by_cases h0:l=[]
 ·subst h0;have hz:(mk [])=ByteArray.empty:=rfl;go_enter Tryz.func36,Tryz.ntmps36;go_wp2;go_ret;exact⟨rfl,rfl⟩
 ·have hne:((mk l).toList==[])=false:=by rw[ByteArray.toList_eq,mk_data,beq_eq_false_iff_ne];exact h0
  go_enter Tryz.func36,Tryz.ntmps36;go_wp2_with (first | (go_at_call 55;refine(trimRightByte_any _ _ hs).mono ?_;rintro e w' ⟨rfl,rfl⟩));go_ret;exact⟨rfl,rfl⟩
end Rws
namespace Rws
open Utf
open Go.RowKit
def rowV (l:List UInt8) (k:Int):Value:=.agg #[.int .i64 (col l),.string (mk (text l)),.int .i64 k]
theorem cell_new3 (w:World) (a b c:Value) (t:TypeId):(w.alloc (.cells #[a,b,c] t)).cell? ⟨w.heap.size,0,none⟩=some a/\(w.alloc (.cells #[a,b,c] t)).cell? ⟨w.heap.size,1,none⟩=some b/\(w.alloc (.cells #[a,b,c] t)).cell? ⟨w.heap.size,2,none⟩=some c:=by
 refine⟨?_,?_,?_⟩
 ·rw[cell_of_row _ w.heap.size 0 _ _ (0,0) (heap_alloc_new w _)];rfl
 ·rw[cell_of_row _ w.heap.size 1 _ _ (0,0) (heap_alloc_new w _)];rfl
 ·rw[cell_of_row _ w.heap.size 2 _ _ (0,0) (heap_alloc_new w _)];rfl
theorem rowOf_any (l:List UInt8) (k:Int) (w:World) (hs:l.length<=140737488355328):Calls Tryz.prog 23 #[.string (mk l),.int .i64 k] w fun e w'=>e=.returned (rowV l k)/\Below w.heap.size w w':=by
 have h1:=trL_len l;have hz1:=mk_size l;have hz2:=mk_size (trL l);go_enter Tryz.func23,Tryz.ntmps23;go_wp2_with (first | (go_at_call 35;refine(trimLeft_any _ _ hs).mono ?_;rintro e w' ⟨rfl,rfl⟩) | (go_at_call 36;refine(trimRight_any _ _ (Nat.le_trans h1 hs)).mono ?_;rintro e w' ⟨rfl,rfl⟩));refine bodyPost_ret (v:=rowV l k) ?_ rfl ⟨rfl,(Below.refl _ _).alloc (Nat.le_refl _) _⟩;have e:((l.length:Int)-((trL l).length:Int))=(col l:Nat):=by unfold col;omega
 simp[results,Tryz.results23,go_sem,rowV,text,e]
theorem emp_cons (b:UInt8) (r:List UInt8):emp (b::r)=(b==35):=by unfold emp;simp
theorem b35 (b:UInt8):((b.toNat:Int)==35)=(b==35):=by
 rw[Bool.eq_iff_iff];simp only[beq_iff_eq];constructor
 ·intro h;apply UInt8.toNat_inj.1;have:b.toNat=35:=by omega
  rw[this];rfl
 ·rintro rfl;rfl
theorem b9 (b:UInt8):((b.toNat:Int)==9)=(b==9):=by
 rw[Bool.eq_iff_iff];simp only[beq_iff_eq];constructor
 ·intro h;apply UInt8.toNat_inj.1;have:b.toNat=9:=by omega
  rw[this];rfl
 ·rintro rfl;rfl
theorem isEmpty_any (c k:Int) (t:List UInt8) (w:World):Calls Tryz.prog 39 #[.agg #[.int .i64 c,.string (mk t),.int .i64 k]] w fun e w'=>e=.returned (.bool (emp t))/\Below w.heap.size w w':=by
 cases t with
 | nil =>
  have hz:mk []=ByteArray.empty:=rfl;go_enter Tryz.func39,Tryz.ntmps39;go_wp2;go_ret;exact⟨rfl,(Below.refl _ _).alloc (Nat.le_refl _) _⟩
 | cons b r =>
  have hne:((mk (b::r)).toList==[])=false:=by rw[ByteArray.toList_eq,mk_data];rfl
  have hsz:(mk (b::r)).size=r.length+1:=by rw[mk_size];simp
  have hg:∀ h,(mk (b::r))[0]'h=b:=fun h=>by rw[mk_get];rfl
  have hb:=b35 b;have HE:Hid (emp (b::r)=(b==35)):=emp_cons b r;go_enter Tryz.func39,Tryz.ntmps39;go_wp2;go_ret;rw[HE.out];exact⟨rfl,(Below.refl _ _).alloc (Nat.le_refl _) _⟩
theorem field0 (a b:Int) (w:World):(Instr.field 32 (.agg #[.int .i64 a,.int .i64 b]) 0).run Tryz.prog w=.ok (.int .i64 a) w:=by kernel_rfl
theorem wrong_13 (l t:List UInt8) (c k:Int) (w:World) (h:has 13 l=true):Calls Tryz.prog 24 #[.string (mk l),.agg #[.int .i64 c,.string (mk t),.int .i64 k]] w fun e w'=>e=.returned (.int .i64 8)/\Below w.heap.size w w':=by
 have hi:idx 13 l=((l.takeWhile (· != 13)).length:Int):=idx_yes h;generalize (l.takeWhile (· != 13)).length=n at hi;go_enter Tryz.func24,Tryz.ntmps24;go_wp2_with (first | (go_at_call 37;refine(indexByte_any _ 13 _).mono ?_;rintro e w' ⟨rfl,rfl⟩;rw[mk_data,hi]));go_ret;exact⟨rfl,(Below.refl _ _).alloc (Nat.le_refl _) _⟩
theorem wrong_chk (l t:List UInt8) (c k:Int) (w:World) (hs:l.length<=140737488355328) (h:has 13 l=false) (hc:(chk l).isSome=true):Calls Tryz.prog 24 #[.string (mk l),.agg #[.int .i64 c,.string (mk t),.int .i64 k]] w fun e w'=>e=.returned (.int .i64 8)/\Below w.heap.size w w':=by
 have hfd:=field0;have hi:idx 13 l= -1:=idx_no h;have hy:why (chk l)=8:=by cases hq:chk l with | none=>rw[hq]at hc;cases hc | some p=>rfl
 have hs':(mk l).size<=maxLen:=by rw[mk_size];unfold maxLen;omega
 go_enter Tryz.func24,Tryz.ntmps24;go_wp2_with (first | (go_at_call 37;refine(indexByte_any _ 13 _).mono ?_;rintro e w' ⟨rfl,rfl⟩;rw[mk_data,hi]) | (go_at_call 38;refine(check_any _ _ hs').mono ?_;rintro e w1 ⟨rfl,hb1⟩;rw[mk_data,hy]));go_ret;exact⟨rfl,((Below.refl _ _).alloc (Nat.le_refl _) _).trans (hb1.mono (by simp))⟩
theorem wrong_emp (l t:List UInt8) (c k:Int) (w:World) (hs:l.length<=140737488355328) (h:has 13 l=false) (hc:chk l=none) (he:emp t=true):Calls Tryz.prog 24 #[.string (mk l),.agg #[.int .i64 c,.string (mk t),.int .i64 k]] w fun e w'=>e=.returned (.int .i64 0)/\Below w.heap.size w w':=by
 have hfd:=field0;have hi:idx 13 l= -1:=idx_no h;have hy:why (chk l)=0:=by rw[hc];rfl
 have hs':(mk l).size<=maxLen:=by rw[mk_size];unfold maxLen;omega
 clear hc;go_enter Tryz.func24,Tryz.ntmps24;have n0:=cell_new3 w (.int .i64 c) (.string (mk t)) (.int .i64 k) 52;go_wp2_with (first | (go_at_call 37;refine(indexByte_any _ 13 _).mono ?_;rintro e w' ⟨rfl,rfl⟩;rw[mk_data,hi]) | (go_at_call 38;refine(check_any _ _ hs').mono ?_;rintro e w1 ⟨rfl,hb1⟩;rw[mk_data,hy];have hc0:=(hb1.cell (p:=⟨w.heap.size,0,none⟩) (by simp)).trans n0.1;have hc1:=(hb1.cell (p:=⟨w.heap.size,1,none⟩) (by simp)).trans n0.2.1;have hc2:=(hb1.cell (p:=⟨w.heap.size,2,none⟩) (by simp)).trans n0.2.2) | (go_at_call 39;refine(isEmpty_any _ _ _ _).mono ?_;rintro e w2 ⟨rfl,hb2⟩;rw[he]));go_ret;exact⟨rfl,((Below.refl _ _).alloc (Nat.le_refl _) _).trans ((hb1.mono (by simp)).trans (hb2.mono (by have:=hb1.size;simp at this;omega)))⟩
def v9 (b:UInt8):Int:=if b=9 then 9 else 0
theorem wrong_full (l:List UInt8) (b:UInt8) (r:List UInt8) (c k:Int) (w:World) (hs:l.length<=140737488355328) (h:has 13 l=false) (hc:chk l=none) (he:emp (b::r)=false):Calls Tryz.prog 24 #[.string (mk l),.agg #[.int .i64 c,.string (mk (b::r)),.int .i64 k]] w fun e w'=>e=.returned (.int .i64 (v9 b))/\Below w.heap.size w w':=by
 have hfd:=field0;have hi:idx 13 l= -1:=idx_no h;have hy:why (chk l)=0:=by rw[hc];rfl
 have hs':(mk l).size<=maxLen:=by rw[mk_size];unfold maxLen;omega
 have hsz:(mk (b::r)).size=r.length+1:=by rw[mk_size];simp
 have hg:∀ h,(mk (b::r))[0]'h=b:=fun h=>by rw[mk_get];rfl
 have hb9:=b9 b;clear hc;by_cases hb:b=9
 ·have HB:Hid (v9 b=9):=if_pos hb;have h9:(b==9)=true:=by simpa using hb
  clear hb;rw[h9]at hb9;go_enter Tryz.func24,Tryz.ntmps24;have n0:=cell_new3 w (.int .i64 c) (.string (mk (b::r))) (.int .i64 k) 52;go_wp2_with (first | (go_at_call 37;refine(indexByte_any _ 13 _).mono ?_;rintro e w' ⟨rfl,rfl⟩;rw[mk_data,hi]) | (go_at_call 38;refine(check_any _ _ hs').mono ?_;rintro e w1 ⟨rfl,hb1⟩;rw[mk_data,hy];have hc0:=(hb1.cell (p:=⟨w.heap.size,0,none⟩) (by simp)).trans n0.1;have hc1:=(hb1.cell (p:=⟨w.heap.size,1,none⟩) (by simp)).trans n0.2.1;have hc2:=(hb1.cell (p:=⟨w.heap.size,2,none⟩) (by simp)).trans n0.2.2) | (go_at_call 39;refine(isEmpty_any _ _ _ _).mono ?_;rintro e w2 ⟨rfl,hb2⟩;rw[he];have hd1:=(hb2.cell (p:=⟨w.heap.size,1,none⟩) (by have:=hb1.size;simp at this;simp;omega)).trans hc1));go_ret;rw[HB.out];exact⟨rfl,((Below.refl _ _).alloc (Nat.le_refl _) _).trans ((hb1.mono (by simp)).trans (hb2.mono (by have:=hb1.size;simp at this;omega)))⟩
 ·have HB:Hid (v9 b=0):=if_neg hb;have h9:(b==9)=false:=by simpa using hb
  clear hb;rw[h9]at hb9;go_enter Tryz.func24,Tryz.ntmps24;have n0:=cell_new3 w (.int .i64 c) (.string (mk (b::r))) (.int .i64 k) 52;go_wp2_with (first | (go_at_call 37;refine(indexByte_any _ 13 _).mono ?_;rintro e w' ⟨rfl,rfl⟩;rw[mk_data,hi]) | (go_at_call 38;refine(check_any _ _ hs').mono ?_;rintro e w1 ⟨rfl,hb1⟩;rw[mk_data,hy];have hc0:=(hb1.cell (p:=⟨w.heap.size,0,none⟩) (by simp)).trans n0.1;have hc1:=(hb1.cell (p:=⟨w.heap.size,1,none⟩) (by simp)).trans n0.2.1;have hc2:=(hb1.cell (p:=⟨w.heap.size,2,none⟩) (by simp)).trans n0.2.2) | (go_at_call 39;refine(isEmpty_any _ _ _ _).mono ?_;rintro e w2 ⟨rfl,hb2⟩;rw[he];have hd1:=(hb2.cell (p:=⟨w.heap.size,1,none⟩) (by have:=hb1.size;simp at this;simp;omega)).trans hc1));go_ret;rw[HB.out];exact⟨rfl,((Below.refl _ _).alloc (Nat.le_refl _) _).trans ((hb1.mono (by simp)).trans (hb2.mono (by have:=hb1.size;simp at this;omega)))⟩
theorem wrong_any (l:List UInt8) (k:Int) (w:World) (hs:l.length<=140737488355328):Calls Tryz.prog 24 #[.string (mk l),rowV l k] w fun e w'=>e=.returned (.int .i64 (wr l))/\Below w.heap.size w w':=by
 unfold rowV;cases h1:has 13 l
 ·cases h2:chk l with
  | none =>
   have hbad:bad l=false:=by unfold bad;rw[h1,h2];rfl
   cases h3:emp (text l)
   ·cases ht:text l with
    | nil=>rw[ht]at h3;cases h3
    | cons b r =>
     rw[ht]at h3
     have hw:wr l=v9 b:=by
      unfold wr v9;rw[hbad,ht,h3];simp
     rw[hw];exact wrong_full l b r _ k w hs h1 h2 h3
   ·have hw:wr l=0:=by unfold wr;rw[hbad,h3];simp
    rw[hw];exact wrong_emp l _ _ k w hs h1 h2 h3
  | some p =>
   have hw:wr l=8:=by unfold wr bad;rw[h1,h2];simp
   rw[hw];exact wrong_chk l _ _ k w hs h1 (by rw[h2];rfl)
 ·have hw:wr l=8:=by unfold wr bad;rw[h1];simp
  rw[hw];exact wrong_13 l _ _ k w h1
theorem b32' (b:UInt8):((b.toNat:Int)==32)=(b==32):=b32 b
theorem isSpace_any (b:UInt8) (w:World):Calls Tryz.prog 115 #[.int .u8 b.toNat] w fun e w'=>e=.returned (.bool (sp b))/\w=w':=by
 have h1:=b32' b;have h2:=b9 b;have HE:Hid (sp b=(b==32 || b==9)):=rfl;cases hb:(b==32)
 ·rw[hb]at h1;go_enter Tryz.func115,Tryz.ntmps115;go_wp2;go_ret;rw[HE.out,hb];exact⟨by simp,rfl⟩
 ·rw[hb]at h1;go_enter Tryz.func115,Tryz.ntmps115;go_wp2;go_ret;rw[HE.out,hb];exact⟨by simp,rfl⟩
end Rws
end Go.Proofs.YtalijhclfppohaaGreatDoor
