/- . -/
import Derived.Test.YtidhpmcmbooaoaaGreatDoorR17UtfEnc
import Derived.Test.YtidhpmcmbooaoaaGreatDoorR15UtfConv
import Derived.Test.YtidhpmcmbooaoaaGreatDoorR00UtfPlain
import Derived.Test.YtidhpmcmbooaoaaGreatDoorR08UtfFirst
set_option linter.unusedSimpArgs false
set_option linter.unusedVariables false
set_option maxRecDepth 100000
namespace Go.Proofs.YtidhpmcmbooaoaaGreatDoor
namespace Utf
open Go.RowKit
theorem encode_no (a:Option Addr) (len cap:Nat) (zs:List Int) (w:World) (hz:Ints w a len zs) (hl:len<=17592186044416) (hs:allS zs=false) :
  Calls Tryz.prog 121 #[.slice a len cap] w fun e w'=>e=.returned (.tuple #[.string ⟨#[]⟩,.int .i64 8])/\w=w':=by
 have HZ:Hid (Ints w a len zs):=hz;clear hz;go_enter Tryz.func121,Tryz.ntmps121;go_wp2_with (first | (go_at_call 149;refine(areSigns_any _ _ _ zs _ HZ.out hl).mono ?_;rintro e w' ⟨rfl,rfl⟩));go_ret2;exact⟨rfl,rfl⟩
theorem encode_yes (a:Option Addr) (len cap:Nat) (zs:List Int) (w:World) (hz:Ints w a len zs) (hl:len<=17592186044416) (hs:allS zs=true) :
  Calls Tryz.prog 121 #[.slice a len cap] w fun e w'=>e=.returned (.tuple #[.string (strOfNums (bytes zs)),.int .i64 0])/\Below w.heap.size w w':=by
 have HZ:Hid (Ints w a len zs):=hz;clear hz;go_enter Tryz.func121,Tryz.ntmps121;go_wp2_with (first | (go_at_call 149;refine(areSigns_any _ _ _ zs _ HZ.out hl).mono ?_;rintro e w' ⟨rfl,rfl⟩) | (go_at_call 150;refine(appendSigns_any _ _ _ zs _ HZ.out hl hs).mono ?_;rintro e w' ⟨v,rfl,hown,hbe⟩;have hcv:=conv_own hown;clear hown));go_ret2;exact⟨rfl,hbe⟩
def encS (zs:List Int):ByteArray:=if allS zs=true then strOfNums (bytes zs)else ⟨#[]⟩
def encE (zs:List Int):Int:=if allS zs=true then 0 else 8
theorem encode_any (a:Option Addr) (len cap:Nat) (zs:List Int) (w:World) (hz:Ints w a len zs) (hl:len<=17592186044416) :
  Calls Tryz.prog 121 #[.slice a len cap] w fun e w'=>e=.returned (.tuple #[.string (encS zs),.int .i64 (encE zs)])/\Below w.heap.size w w':=by
 unfold encS encE;cases hs:allS zs
 ·refine(encode_no a len cap zs w hz hl hs).mono ?_;rintro e w' ⟨rfl,rfl⟩;exact⟨by simp,Below.refl _ _⟩
 ·refine(encode_yes a len cap zs w hz hl hs).mono ?_;rintro e w' ⟨rfl,hb⟩;exact⟨by simp,hb⟩
theorem ints_one (w:World) (n:Int) (t:TypeId):Ints (w.alloc (.cells #[.int .i64 n] t)) (some ⟨w.heap.size,0,none⟩) 1 [n]:=by
 refine⟨rfl,fun _=>⟨_,_,rfl,by simp,?_⟩⟩;intro i hi;obtain rfl:i=0:=by omega
 rw[cell_of_row _ w.heap.size (0+0) #[.int .i64 n] t (0,0) (heap_alloc_new w _)];rfl
end Utf
namespace Quo
open Utf Rws
open Go.RowKit
theorem stands_any (n:Int) (w:World):Calls Tryz.prog 90 #[.int .i64 n] w fun e w'=>e=.returned (.bool (may n))/\w=w':=by
 have HM:Hid (may n=(prn n && !(n==9) && !(n==10) && !(n==13))):=rfl;cases c1:(n==9)
 ·cases c2:(n==10)
  ·cases c3:(n==13)
   ·go_enter Tryz.func90,Tryz.ntmps90;go_wp2_with (first | (go_at_call 109;refine(printable_any _ _).mono ?_;rintro e w' ⟨rfl,rfl⟩));go_ret;exact⟨by rw[HM.out,c1,c2,c3];simp,rfl⟩
   ·go_enter Tryz.func90,Tryz.ntmps90;go_wp2;go_ret;exact⟨by rw[HM.out,c3];simp,rfl⟩
  ·go_enter Tryz.func90,Tryz.ntmps90;go_wp2;go_ret;exact⟨by rw[HM.out,c2];simp,rfl⟩
 ·go_enter Tryz.func90,Tryz.ntmps90;go_wp2;go_ret;exact⟨by rw[HM.out,c1];simp,rfl⟩
/-! ### putSign -/
theorem bytes_one (n:Int):Utf.bytes [n]=byt n:=by simp[Utf.bytes]
theorem allS_one (n:Int):allS [n]=sgn n:=by simp[allS]
theorem cells_app (a b:List UInt8):Lib.byteCells (a++b)=Lib.byteCells a++Lib.byteCells b:=by simp[Lib.byteCells]
theorem strCells_mk (l:List UInt8):Lib.strCells (mk l)=Lib.byteCells l:=rfl
def sgb (n:Int):List UInt8:=if sgn n=true then u8s (byt n)else []
theorem sgb_len (n:Int):(sgb n).length<=4:=by
 unfold sgb;split
 ·simp[u8s];exact(byt_len n).2
 ·simp
variable {T:TypeId} {B b:Nat} {tl:List Value} {w:World}
theorem putSign_any (hT:Emb T (tl.length+2)) (n:Int) (out:List UInt8) (h:Bld T B b tl (Lib.byteCells out) w) (hlen:out.length+4<=140737488355328) (hBw:B<=w.heap.size) :
  Calls Tryz.prog 91 #[.pointer (some ⟨b,0,none⟩),.int .i64 n] w fun e w'=>e=.returned (.bool (sgn n))/\(Bld T B b tl (Lib.byteCells (out++sgb n)) w'/\Below B w w'/\Lib.OthersKept 5 (some b) w w'):=by
 have HE:=encode_any (some ⟨w.heap.size,0,none⟩) 1 1 [n] (w.alloc (.cells #[.int .i64 n] 3)) (ints_one w n 3) (by decide);have hb0:Below w.heap.size w (w.alloc (.cells #[.int .i64 n] 3)):=(Below.refl _ _).alloc (Nat.le_refl _) _;have hsl:=sgb_len n
 have e1:encS [n]=mk (sgb n):=by
  unfold encS sgb;rw[allS_one,bytes_one];split<;>rfl
 have e2:(encE [n]==0)=sgn n:=by
  unfold encE;rw[allS_one];cases sgn n<;>rfl
 obtain⟨E,hE⟩:∃ E,E=encE [n]:=⟨_,rfl⟩;obtain⟨S,hS⟩:∃ S,S=sgb n:=⟨_,rfl⟩;obtain⟨V,hV⟩:∃ V,V=sgn n:=⟨_,rfl⟩;rw[e1,<-hE,<-hS]at HE;rw[<-hE,<-hV]at e2;rw[<-hS,<-hV];rw[<-hS]at hsl;clear e1 hE hS hV
 have HC:Hid (Calls Tryz.prog 121 #[.slice (some ⟨w.heap.size,0,none⟩) 1 1] (w.alloc (.cells #[.int .i64 n] 3)) fun e w'=>e=.returned (.tuple #[.string (mk S),.int .i64 E])/\Below w.heap.size w w'/\Bld T B b tl (Lib.byteCells out) w'):=HE.mono (by
  rintro e w' ⟨h1,h2⟩;have h3:Below w.heap.size w w':=hb0.trans (h2.mono (by simp));exact⟨h1,h3,h.later h3⟩)
 clear HE hb0 h;have HT:Hid (Emb T (tl.length+2)):=hT;clear hT;go_enter Tryz.func91,Tryz.ntmps91;go_wp2_with (first | (go_at_call 121;refine HC.out.mono ?_;rintro e w1 ⟨rfl,hb1,hB1⟩) | (go_at_call 23;refine(writeString_any HT.out (mk S) hB1 (by rw[cells_len,mk_size];omega) (by have:=hb1.size;omega)).mono ?_;rintro e w2 ⟨rfl,hB2,hb2,hk2⟩));go_ret;rw[strCells_mk,<-cells_app]at hB2;exact⟨rfl,hB2,(hb1.mono hBw).trans hb2,(kept_of_below hb1).trans hk2⟩
end Quo
end Go.Proofs.YtidhpmcmbooaoaaGreatDoor
