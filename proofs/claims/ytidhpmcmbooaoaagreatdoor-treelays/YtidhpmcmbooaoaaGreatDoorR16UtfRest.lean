/- . -/
import Derived.Test.YtidhpmcmbooaoaaGreatDoorR07FlowRnameP
set_option linter.unusedSimpArgs false
set_option linter.unusedVariables false
namespace Go.Proofs.YtidhpmcmbooaoaaGreatDoor
namespace Utf
open Go.RowKit
theorem rest0 (n:Int) (h0:0<=n) (h1:n<=1114111) (w:World):Calls Tryz.prog 178 #[.int .i64 n,.int .i64 0] w fun e w'=>e=.returned (.int .u8 (128+n % 64))/\w=w':=by
 go_enter Tryz.func178,Tryz.ntmps178;go_wp2;go_ret;exact⟨rfl,rfl⟩
theorem rest1 (n:Int) (h0:0<=n) (h1:n<=1114111) (w:World):Calls Tryz.prog 178 #[.int .i64 n,.int .i64 1] w fun e w'=>e=.returned (.int .u8 (128+n / 64 % 64))/\w=w':=by
 go_enter Tryz.func178,Tryz.ntmps178;go_wp2;go_ret;exact⟨rfl,rfl⟩
theorem rest2 (n:Int) (h0:0<=n) (h1:n<=1114111) (w:World):Calls Tryz.prog 178 #[.int .i64 n,.int .i64 2] w fun e w'=>e=.returned (.int .u8 (128+n / 4096 % 64))/\w=w':=by
 go_enter Tryz.func178,Tryz.ntmps178;go_wp2;go_ret;exact⟨rfl,rfl⟩
def restV (n j:Int):Int:=if j=0 then 128+n % 64 else if j=1 then 128+n / 64 % 64 else 128+n / 4096 % 64
theorem rest_any (n j:Int) (h0:0<=n) (h1:n<=1114111) (hj0:0<=j) (hj2:j<=2) (w:World):Calls Tryz.prog 178 #[.int .i64 n,.int .i64 j] w fun e w'=>e=.returned (.int .u8 (restV n j))/\w=w':=by
 rcases(show j=0\/j=1\/j=2 by omega)with rfl | rfl | rfl
 ·exact rest0 n h0 h1 w
 ·exact rest1 n h0 h1 w
 ·exact rest2 n h0 h1 w
end Utf
end Go.Proofs.YtidhpmcmbooaoaaGreatDoor
