/- . -/
import Derived.Test.YtidhpmcmbooaoaaGreatDoorR08UtfFirst
set_option linter.unusedSimpArgs false
set_option linter.unusedVariables false
namespace Go.Proofs.YtidhpmcmbooaoaaGreatDoor
namespace Utf
open Go.RowKit
theorem check_any (s:ByteArray) (w:World) (hs:s.size<=maxLen):Calls Tryz.prog 83 #[.string s] w fun e w'=>e=.returned (.agg #[.int .i64 (why (chk s.data.toList)),.int .i64 (pos (chk s.data.toList))])/\Below w.heap.size w w':=by
 have hs':=hs;unfold maxLen at hs;go_enter Tryz.func83,Tryz.ntmps83;go_wp2
 go_loop [3] (fun i=>∃ p:Nat,p<=s.size/\i=.int .i64 p/\chk s.data.toList=(chk (s.data.toList.drop p)).map (· + p)) (fun i=>s.size-(intOf i).toNat)
 case atStart=>exact⟨0,Nat.zero_le _,rfl,by simp⟩
 case round =>
  obtain⟨p,hp,rfl,hc⟩:=hrel;have HC:Hid (chk s.data.toList=(chk (s.data.toList.drop p)).map (· + p)):=hc;clear hc;by_cases hlt:p<s.size
  ·have hne:=drop_ne s p hlt;have hf:=fk_pos _ hne;have hcn:=chk_next _ hne;rw[List.drop_drop]at hcn;rw[List.length_drop,len_data]at hf;obtain⟨f1,f2,f3,f4⟩:=hf;have hb0:0<=(fst (s.data.toList.drop p)).2:=by omega
   have hb4:(fst (s.data.toList.drop p)).2<=4:=by omega
   have hb5:(p:Int)+(fst (s.data.toList.drop p)).2<=s.size:=by omega
   have H4:Hid (((fk (s.data.toList.drop p):Nat):Int)=(fst (s.data.toList.drop p)).2):=f4;clear f4 hne;cases hpr:prn (fst (s.data.toList.drop p)).1
   ·rw[hpr]at hcn;have HN:Hid (chk s.data.toList=some p):=by have:=HC.out;rw[hcn]at this;simp at this;exact this
    clear hcn;go_wp2_with (first | (go_at_call 89;refine(firstAt_any _ _ _ hs').mono ?_;rintro e w' ⟨rfl,rfl⟩) | (go_at_call 109;refine(printable_any _ _).mono ?_;rintro e w' ⟨rfl,rfl⟩));refine bodyPost_ret (v:=.agg #[.int .i64 8,.int .i64 p]) (by simp[results,Tryz.results83,go_sem]) rfl ⟨by rw[HN.out];rfl,?_⟩;exact(Below.refl _ _).alloc (Nat.le_refl _) _
   ·rw[hpr]at hcn
    have HN:Hid (chk s.data.toList=(chk (s.data.toList.drop (p+fk (s.data.toList.drop p)))).map (· + (p+fk (s.data.toList.drop p)))):=by
     have:=HC.out;rw[hcn]at this;simp[Option.map_map]at this;rw[this];congr 1;funext x;simp;omega
    clear hcn;go_wp2_with (first | (go_at_call 89;refine(firstAt_any _ _ _ hs').mono ?_;rintro e w' ⟨rfl,rfl⟩) | (go_at_call 109;refine(printable_any _ _).mono ?_;rintro e w' ⟨rfl,rfl⟩));have h4:=H4.out;go_round
    case rel=>exact⟨p+fk (s.data.toList.drop p),by omega,by rw[<-H4.out];go_num,HN.out⟩
    case measure=>simp[intOf];omega
  ·have HN:Hid (chk s.data.toList=none):=by
    have:=HC.out;rw[List.drop_of_length_le (by rw[len_data];omega),chk_nil]at this;exact this
   go_wp2;refine bodyPost_ret (v:=.agg #[.int .i64 0,.int .i64 0]) (by simp[results,Tryz.results83,go_sem]) rfl ⟨by rw[HN.out];rfl,?_⟩;exact(Below.refl _ _).alloc (Nat.le_refl _) _
end Utf
end Go.Proofs.YtidhpmcmbooaoaaGreatDoor
