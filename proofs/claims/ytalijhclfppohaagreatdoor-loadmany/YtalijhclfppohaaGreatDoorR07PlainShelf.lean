/- . -/
import Derived.Shelf.Small.Utf8
import Derived.Shelf.Strconv.Itoa3
import Derived.Shelf.Strconv.AtoiAll
import Derived.Shelf.Strings.AsciiSet
import Derived.Test.YtalijhclfppohaaGreatDoorProg
import Derived.Test.YtalijhclfppohaaGreatDoorR05UtfLeaf
import Derived.Lib.AsciiSet
import Derived.Deep.WholeRow
import Derived.Laws.RangeAny
import Derived.WalkMore
import Derived.BigQuiet
import Derived.BigRegion
import Derived.Deep.QuietTactic
import Derived.Deep.LoopGhost
import Derived.Laws.EntriesVeiled
import Derived.Test.YtalijhclfppohaaGreatDoorR01RowsPlain
import Derived.Lib.SmallJoins
import Derived.Lib.AtoiAllCases
set_option linter.unusedSimpArgs false
set_option linter.unusedVariables false
set_option maxRecDepth 100000
namespace Go.Proofs.YtalijhclfppohaaGreatDoor
namespace Pln
open Go.Shelf
def lays119_ren:Go.Shelf.Ren:=⟨fun | 119=>123 | n=>n,fun | 21=>21 | 4=>4 | n=>n,fun | n=>n⟩
theorem lays119:Go.Proofs.Lays.n119 Tryz.prog lays119_ren:= {
 mixed:=by kernel_rfl
 f119:=Tryz.func123.trans (congrArg some (by kernel_rfl))
 t4:=Tryz.underlying4
 a4:=Tryz.isAgg4
 z4:=Tryz.sizeOf4
 v4:=Tryz.zeroValue4
 t21:=Tryz.underlying21
 a21:=Tryz.isAgg21
 z21:=Tryz.sizeOf21
 v21:=Tryz.zeroValue21 }
def laysM171_ren:Go.Shelf.Ren:=⟨fun | 171=>176 | 243=>198 | 246=>208 | 283=>213 | 284=>214 | 285=>215 | 286=>216 | 129=>220 | 317=>219 | 318=>221 | 319=>222 | 320=>223 | 337=>225 | 338=>226 | n=>n,fun | 3=>3 | 9=>9 | 2=>2 | 4=>4 | 171=>251 | 0=>0 | 53=>217 | 37=>172 | 5=>5 | 173=>254 | 212=>259 | 51=>147 | 20=>20 | 213=>260 | 46=>115 | 232=>264 | 233=>265 | n=>n,fun | 17=>7 | 18=>8 | 19=>9 | n=>n⟩
theorem laysM171:Go.Proofs.LaysM.n171 Tryz.prog laysM171_ren:= {
 mixed:=by kernel_rfl
 f129:=Tryz.func220.trans (congrArg some (by kernel_rfl))
 f171:=Tryz.func176.trans (congrArg some (by kernel_rfl))
 f243:=Tryz.func198.trans (congrArg some (by kernel_rfl))
 f246:=Tryz.func208.trans (congrArg some (by kernel_rfl))
 f283:=Tryz.func213.trans (congrArg some (by kernel_rfl))
 f284:=Tryz.func214.trans (congrArg some (by kernel_rfl))
 f285:=Tryz.func215.trans (congrArg some (by kernel_rfl))
 f286:=Tryz.func216.trans (congrArg some (by kernel_rfl))
 f317:=Tryz.func219.trans (congrArg some (by kernel_rfl))
 f318:=Tryz.func221.trans (congrArg some (by kernel_rfl))
 f319:=Tryz.func222.trans (congrArg some (by kernel_rfl))
 f320:=Tryz.func223.trans (congrArg some (by kernel_rfl))
 f337:=Tryz.func225.trans (congrArg some (by kernel_rfl))
 f338:=Tryz.func226.trans (congrArg some (by kernel_rfl))
 t0:=Tryz.underlying0
 a0:=Tryz.isAgg0
 z0:=Tryz.sizeOf0
 v0:=Tryz.zeroValue0
 t2:=Tryz.underlying2
 a2:=Tryz.isAgg2
 z2:=Tryz.sizeOf2
 v2:=Tryz.zeroValue2
 t3:=Tryz.underlying3
 a3:=Tryz.isAgg3
 z3:=Tryz.sizeOf3
 v3:=Tryz.zeroValue3
 t4:=Tryz.underlying4
 a4:=Tryz.isAgg4
 z4:=Tryz.sizeOf4
 v4:=Tryz.zeroValue4
 t5:=Tryz.underlying5
 a5:=Tryz.isAgg5
 z5:=Tryz.sizeOf5
 v5:=Tryz.zeroValue5
 t9:=Tryz.underlying9
 a9:=Tryz.isAgg9
 z9:=Tryz.sizeOf9
 v9:=Tryz.zeroValue9
 t20:=Tryz.underlying20
 a20:=Tryz.isAgg20
 z20:=Tryz.sizeOf20
 v20:=Tryz.zeroValue20
 t37:=Tryz.underlying172
 a37:=Tryz.isAgg172
 z37:=Tryz.sizeOf172
 v37:=Tryz.zeroValue172
 t46:=Tryz.underlying115
 a46:=Tryz.isAgg115
 z46:=Tryz.sizeOf115
 v46:=Tryz.zeroValue115
 t51:=Tryz.underlying147
 a51:=Tryz.isAgg147
 z51:=Tryz.sizeOf147
 v51:=Tryz.zeroValue147
 t53:=Tryz.underlying217
 a53:=Tryz.isAgg217
 z53:=Tryz.sizeOf217
 v53:=Tryz.zeroValue217
 t171:=Tryz.underlying251
 a171:=Tryz.isAgg251
 z171:=Tryz.sizeOf251
 v171:=Tryz.zeroValue251
 t173:=Tryz.underlying254
 a173:=Tryz.isAgg254
 z173:=Tryz.sizeOf254
 v173:=Tryz.zeroValue254
 t212:=Tryz.underlying259
 a212:=Tryz.isAgg259
 z212:=Tryz.sizeOf259
 v212:=Tryz.zeroValue259
 t213:=Tryz.underlying260
 a213:=Tryz.isAgg260
 z213:=Tryz.sizeOf260
 t232:=Tryz.underlying264
 a232:=Tryz.isAgg264
 z232:=Tryz.sizeOf264
 v232:=Tryz.zeroValue264
 t233:=Tryz.underlying265
 a233:=Tryz.isAgg265
 z233:=Tryz.sizeOf265
 v233:=Tryz.zeroValue265
 g17:=by kernel_rfl
 g18:=by kernel_rfl
 g19:=by kernel_rfl
 i0:=by kernel_rfl
 i2:=by kernel_rfl
 i3:=by kernel_rfl
 i4:=by kernel_rfl
 i5:=by kernel_rfl
 i9:=by kernel_rfl
 i20:=by kernel_rfl
 i37:=by kernel_rfl
 i46:=by kernel_rfl
 i51:=by kernel_rfl
 i53:=by kernel_rfl
 i171:=by kernel_rfl
 i173:=by kernel_rfl
 i212:=by kernel_rfl
 i232:=by kernel_rfl
 i233:=by kernel_rfl
 m17:=by kernel_rfl
 m18:=by kernel_rfl
 m19:=by kernel_rfl }
def laysC172_ren:Go.Shelf.Ren:=⟨fun | 172=>152 | 244=>174 | 245=>175 | 247=>193 | 279=>194 | 280=>195 | 281=>196 | 282=>197 | 287=>205 | 316=>206 | 171=>176 | 205=>207 | 321=>211 | 322=>212 | 243=>198 | 246=>208 | 283=>213 | 284=>214 | 285=>215 | 286=>216 | 129=>220 | 317=>219 | 318=>221 | 319=>222 | 320=>223 | 337=>225 | 338=>226 | n=>n,fun | 9=>9 | 3=>3 | 75=>185 | 76=>186 | 4=>4 | 5=>5 | 167=>224 | 37=>172 | 0=>0 | 85=>225 | 2=>2 | 168=>227 | 53=>217 | 175=>234 | 46=>115 | 210=>237 | 127=>202 | 145=>250 | 143=>248 | 21=>21 | 171=>251 | 173=>254 | 212=>259 | 51=>147 | 20=>20 | 213=>260 | 232=>264 | 233=>265 | 80=>180 | n=>n,fun | 15=>3 | 16=>4 | 17=>7 | 18=>8 | 19=>9 | n=>n⟩
theorem laysC172:Go.Proofs.LaysC.n172 Tryz.prog laysC172_ren:= {
 mixed:=by kernel_rfl
 f129:=Tryz.func220.trans (congrArg some (by kernel_rfl))
 f171:=Tryz.func176.trans (congrArg some (by kernel_rfl))
 f172:=Tryz.func152.trans (congrArg some (by kernel_rfl))
 f205:=Tryz.func207.trans (congrArg some (by kernel_rfl))
 f243:=Tryz.func198.trans (congrArg some (by kernel_rfl))
 f244:=Tryz.func174.trans (congrArg some (by kernel_rfl))
 f245:=Tryz.func175.trans (congrArg some (by kernel_rfl))
 f246:=Tryz.func208.trans (congrArg some (by kernel_rfl))
 f247:=Tryz.func193.trans (congrArg some (by kernel_rfl))
 f279:=Tryz.func194.trans (congrArg some (by kernel_rfl))
 f280:=Tryz.func195.trans (congrArg some (by kernel_rfl))
 f281:=Tryz.func196.trans (congrArg some (by kernel_rfl))
 f282:=Tryz.func197.trans (congrArg some (by kernel_rfl))
 f283:=Tryz.func213.trans (congrArg some (by kernel_rfl))
 f284:=Tryz.func214.trans (congrArg some (by kernel_rfl))
 f285:=Tryz.func215.trans (congrArg some (by kernel_rfl))
 f286:=Tryz.func216.trans (congrArg some (by kernel_rfl))
 f287:=Tryz.func205.trans (congrArg some (by kernel_rfl))
 f316:=Tryz.func206.trans (congrArg some (by kernel_rfl))
 f317:=Tryz.func219.trans (congrArg some (by kernel_rfl))
 f318:=Tryz.func221.trans (congrArg some (by kernel_rfl))
 f319:=Tryz.func222.trans (congrArg some (by kernel_rfl))
 f320:=Tryz.func223.trans (congrArg some (by kernel_rfl))
 f321:=Tryz.func211.trans (congrArg some (by kernel_rfl))
 f322:=Tryz.func212.trans (congrArg some (by kernel_rfl))
 f337:=Tryz.func225.trans (congrArg some (by kernel_rfl))
 f338:=Tryz.func226.trans (congrArg some (by kernel_rfl))
 t0:=Tryz.underlying0
 a0:=Tryz.isAgg0
 z0:=Tryz.sizeOf0
 v0:=Tryz.zeroValue0
 t2:=Tryz.underlying2
 a2:=Tryz.isAgg2
 z2:=Tryz.sizeOf2
 v2:=Tryz.zeroValue2
 t3:=Tryz.underlying3
 a3:=Tryz.isAgg3
 z3:=Tryz.sizeOf3
 v3:=Tryz.zeroValue3
 t4:=Tryz.underlying4
 a4:=Tryz.isAgg4
 z4:=Tryz.sizeOf4
 v4:=Tryz.zeroValue4
 t5:=Tryz.underlying5
 a5:=Tryz.isAgg5
 z5:=Tryz.sizeOf5
 v5:=Tryz.zeroValue5
 t9:=Tryz.underlying9
 a9:=Tryz.isAgg9
 z9:=Tryz.sizeOf9
 v9:=Tryz.zeroValue9
 t20:=Tryz.underlying20
 a20:=Tryz.isAgg20
 z20:=Tryz.sizeOf20
 v20:=Tryz.zeroValue20
 t21:=Tryz.underlying21
 a21:=Tryz.isAgg21
 z21:=Tryz.sizeOf21
 v21:=Tryz.zeroValue21
 t37:=Tryz.underlying172
 a37:=Tryz.isAgg172
 z37:=Tryz.sizeOf172
 v37:=Tryz.zeroValue172
 t46:=Tryz.underlying115
 a46:=Tryz.isAgg115
 z46:=Tryz.sizeOf115
 v46:=Tryz.zeroValue115
 t51:=Tryz.underlying147
 a51:=Tryz.isAgg147
 z51:=Tryz.sizeOf147
 v51:=Tryz.zeroValue147
 t53:=Tryz.underlying217
 a53:=Tryz.isAgg217
 z53:=Tryz.sizeOf217
 v53:=Tryz.zeroValue217
 t75:=Tryz.underlying185
 a75:=Tryz.isAgg185
 z75:=Tryz.sizeOf185
 v75:=Tryz.zeroValue185
 t76:=Tryz.underlying186
 a76:=Tryz.isAgg186
 z76:=Tryz.sizeOf186
 v76:=Tryz.zeroValue186
 t85:=Tryz.underlying225
 a85:=Tryz.isAgg225
 z85:=Tryz.sizeOf225
 v85:=Tryz.zeroValue225
 t127:=Tryz.underlying202
 a127:=Tryz.isAgg202
 z127:=Tryz.sizeOf202
 v127:=Tryz.zeroValue202
 t143:=Tryz.underlying248
 a143:=Tryz.isAgg248
 z143:=Tryz.sizeOf248
 v143:=Tryz.zeroValue248
 t145:=Tryz.underlying250
 a145:=Tryz.isAgg250
 z145:=Tryz.sizeOf250
 v145:=Tryz.zeroValue250
 t167:=Tryz.underlying224
 a167:=Tryz.isAgg224
 z167:=Tryz.sizeOf224
 v167:=Tryz.zeroValue224
 t168:=Tryz.underlying227
 a168:=Tryz.isAgg227
 z168:=Tryz.sizeOf227
 v168:=Tryz.zeroValue227
 t171:=Tryz.underlying251
 a171:=Tryz.isAgg251
 z171:=Tryz.sizeOf251
 v171:=Tryz.zeroValue251
 t173:=Tryz.underlying254
 a173:=Tryz.isAgg254
 z173:=Tryz.sizeOf254
 v173:=Tryz.zeroValue254
 t175:=Tryz.underlying234
 a175:=Tryz.isAgg234
 z175:=Tryz.sizeOf234
 v175:=Tryz.zeroValue234
 t210:=Tryz.underlying237
 a210:=Tryz.isAgg237
 z210:=Tryz.sizeOf237
 v210:=Tryz.zeroValue237
 t212:=Tryz.underlying259
 a212:=Tryz.isAgg259
 z212:=Tryz.sizeOf259
 v212:=Tryz.zeroValue259
 t213:=Tryz.underlying260
 a213:=Tryz.isAgg260
 z213:=Tryz.sizeOf260
 t232:=Tryz.underlying264
 a232:=Tryz.isAgg264
 z232:=Tryz.sizeOf264
 v232:=Tryz.zeroValue264
 t233:=Tryz.underlying265
 a233:=Tryz.isAgg265
 z233:=Tryz.sizeOf265
 v233:=Tryz.zeroValue265
 g15:=by kernel_rfl
 g16:=by kernel_rfl
 g17:=by kernel_rfl
 g18:=by kernel_rfl
 g19:=by kernel_rfl
 t80:=Tryz.underlying180
 a80:=Tryz.isAgg180
 z80:=Tryz.sizeOf180
 v80:=Tryz.zeroValue180
 i0:=by kernel_rfl
 i2:=by kernel_rfl
 i3:=by kernel_rfl
 i4:=by kernel_rfl
 i5:=by kernel_rfl
 i9:=by kernel_rfl
 i20:=by kernel_rfl
 i21:=by kernel_rfl
 i37:=by kernel_rfl
 i46:=by kernel_rfl
 i51:=by kernel_rfl
 i53:=by kernel_rfl
 i75:=by kernel_rfl
 i76:=by kernel_rfl
 i80:=by kernel_rfl
 i85:=by kernel_rfl
 i127:=by kernel_rfl
 i143:=by kernel_rfl
 i145:=by kernel_rfl
 i167:=by kernel_rfl
 i168:=by kernel_rfl
 i171:=by kernel_rfl
 i173:=by kernel_rfl
 i175:=by kernel_rfl
 i210:=by kernel_rfl
 i212:=by kernel_rfl
 i232:=by kernel_rfl
 i233:=by kernel_rfl
 m15:=by kernel_rfl
 m16:=by kernel_rfl
 m17:=by kernel_rfl
 m18:=by kernel_rfl
 m19:=by kernel_rfl
 c0:=by kernel_rfl
 c2:=by kernel_rfl
 c3:=by kernel_rfl
 c4:=by kernel_rfl
 c5:=by kernel_rfl
 c9:=by kernel_rfl
 c20:=by kernel_rfl
 c21:=by kernel_rfl
 c37:=by kernel_rfl
 c46:=by kernel_rfl
 c51:=by kernel_rfl
 c53:=by kernel_rfl
 c75:=by kernel_rfl
 c76:=by kernel_rfl
 c80:=by kernel_rfl
 c85:=by kernel_rfl
 c127:=by kernel_rfl
 c143:=by kernel_rfl
 c145:=by kernel_rfl
 c167:=by kernel_rfl
 c168:=by kernel_rfl
 c171:=by kernel_rfl
 c173:=by kernel_rfl
 c175:=by kernel_rfl
 c210:=by kernel_rfl
 c212:=by kernel_rfl
 c213:=by kernel_rfl
 c232:=by kernel_rfl
 c233:=by kernel_rfl }
def lays227_ren:Go.Shelf.Ren:=⟨fun | 227=>52 | n=>n,fun | 9=>9 | 116=>92 | 4=>4 | 0=>0 | 3=>3 | 5=>5 | n=>n,fun | n=>n⟩
theorem lays227:Go.Proofs.Lays.n227 Tryz.prog lays227_ren:= {
 mixed:=by kernel_rfl
 f227:=Tryz.func52.trans (congrArg some (by kernel_rfl))
 t0:=Tryz.underlying0
 a0:=Tryz.isAgg0
 z0:=Tryz.sizeOf0
 v0:=Tryz.zeroValue0
 t3:=Tryz.underlying3
 a3:=Tryz.isAgg3
 z3:=Tryz.sizeOf3
 v3:=Tryz.zeroValue3
 t4:=Tryz.underlying4
 a4:=Tryz.isAgg4
 z4:=Tryz.sizeOf4
 v4:=Tryz.zeroValue4
 t5:=Tryz.underlying5
 a5:=Tryz.isAgg5
 z5:=Tryz.sizeOf5
 v5:=Tryz.zeroValue5
 t9:=Tryz.underlying9
 a9:=Tryz.isAgg9
 z9:=Tryz.sizeOf9
 v9:=Tryz.zeroValue9
 t116:=Tryz.underlying92
 a116:=Tryz.isAgg92
 z116:=Tryz.sizeOf92 }
def lays228_ren:Go.Shelf.Ren:=⟨fun | 228=>80 | n=>n,fun | 124=>96 | 5=>5 | 4=>4 | 0=>0 | 116=>92 | n=>n,fun | n=>n⟩
theorem lays228:Go.Proofs.Lays.n228 Tryz.prog lays228_ren:= {
 mixed:=by kernel_rfl
 f228:=Tryz.func80.trans (congrArg some (by kernel_rfl))
 t0:=Tryz.underlying0
 a0:=Tryz.isAgg0
 z0:=Tryz.sizeOf0
 v0:=Tryz.zeroValue0
 t4:=Tryz.underlying4
 a4:=Tryz.isAgg4
 z4:=Tryz.sizeOf4
 v4:=Tryz.zeroValue4
 t5:=Tryz.underlying5
 a5:=Tryz.isAgg5
 z5:=Tryz.sizeOf5
 v5:=Tryz.zeroValue5
 t116:=Tryz.underlying92
 a116:=Tryz.isAgg92
 z116:=Tryz.sizeOf92
 t124:=Tryz.underlying96
 a124:=Tryz.isAgg96
 z124:=Tryz.sizeOf96
 v124:=Tryz.zeroValue96 }
end Pln
namespace Pln
open Utf Rws
open Go.RowKit
def c3 (b:UInt8):Bool:=b==9 || b==10 || b==13
def anyB (l:List UInt8):Bool:=l.any c3
theorem anyB_has (l:List UInt8):anyB l=(has 9 l || has 10 l || has 13 l):=by
 unfold anyB has
 induction l with
 | nil=>rfl
 | cons b r ih =>
  simp only[List.any_cons,ih,c3];cases (b==9)<;>cases (b==10)<;>cases (b==13)<;>simp
theorem any_take_snoc (l:List UInt8) (n:Nat) (h:n<l.length):(l.take (n+1)).any c3=((l.take n).any c3 || c3 (l.getD n 0)):=by
 rw[List.take_succ_eq_append_getElem h,List.any_append,List.getD_eq_getElem?_getD,List.getElem?_eq_getElem h];simp
theorem any_hit (l:List UInt8) (n:Nat) (h:n<l.length) (hc:c3 (l.getD n 0)=true):anyB l=true:=by
 unfold anyB;rw[List.any_eq_true];rw[List.getD_eq_getElem?_getD,List.getElem?_eq_getElem h]at hc;exact⟨l[n],List.getElem_mem h,hc⟩
def IxRes (l:List UInt8) (e:Ending):Prop:=∃ r:Int,e=.returned (.int .i64 r)/\decide (0<=r)=anyB l
theorem zero_set:(Tryz.prog.info? 92).map (fun i=>(i.zero,i.size))=some (some (.agg (Array.replicate 256 (.bool false))),256):=by kernel_rfl
theorem set_has (x:UInt8):([9,10,13]:List UInt8).contains x=c3 x:=by
 unfold c3;show ((x==9) || ((x==10) || ((x==13) || false)))=_;rw[Bool.or_false,Bool.or_assoc]
theorem shouldUse_any (n:Int) (w:World):Calls Tryz.prog 204 #[.int .i64 n] w fun e w'=>e=.returned (.bool (decide (8<n)))/\w=w':=by
 go_enter Tryz.func204,Tryz.ntmps204;go_wp2;go_ret;exact⟨rfl,rfl⟩
theorem indexAny_long (l:List UInt8) (w:World) (hs:l.length<=140737488351232) (h8:8<l.length):Calls Tryz.prog 182 #[.string (mk l),.string ⟨#[9,10,13]⟩] w fun e w'=>IxRes l e/\Below w.heap.size w w':=by
 have hsz:=mk_size l
 have hM:=Any.strings_makeASCIISet lays227 (zero_of_info zero_set).1 (zero_of_info zero_set).2 ⟨#[9,10,13]⟩ w (by decide) (by
  intro j b hb
  match j,hb with
  | 0,hb=>simp at hb;subst hb;decide
  | 1,hb=>simp at hb;subst hb;decide
  | 2,hb=>simp at hb;subst hb;decide
  | j+3,hb=>simp at hb)
 obtain⟨C,HC⟩:∃ C,Hid (Lib.setCells (⟨#[9,10,13]⟩:ByteArray).data.toList=C):=⟨_,rfl⟩;rw[HC.out]at hM;have hC1:C.size=256:=by rw[<-HC.out];exact Lib.setCells_size _
 have hC2:C.all (·.oneCell')=true:=by rw[<-HC.out];exact Lib.setCells_one _
 have hC3:∀ x:UInt8,C[x.toNat]?=some (.bool (c3 x)):=fun x=>by
  rw[<-HC.out,Lib.setCells_at];congr 2;exact set_has x
 clear HC;have HM:Hid (Calls Tryz.prog 52 #[.string ⟨#[9,10,13]⟩] w fun e w'=>e=.returned (.tuple #[.agg C,.bool true])/\w'=w.alloc (.cells C 92)):=hM;clear hM
 have hsc:(storeCells ⟨w.heap.size+1,0,none⟩ C.toList 0).run Tryz.prog ((w.alloc (.cells C 92)).alloc (.cells Tryz.zeroCells92 92))=.ok () ((w.alloc (.cells C 92)).alloc (.cells C 92)):=by
  have:=run_storeCells_new (P:=Tryz.prog) (w.alloc (.cells C 92)) 92 Tryz.zeroCells92 C (by rw[hC1];exact(zero_of_info zero_set).2) (by rw[hC1];kernel_rfl) hC2;simpa using this
 have HS:Hid ((storeCells ⟨w.heap.size+1,0,none⟩ C.toList 0).run Tryz.prog ((w.alloc (.cells C 92)).alloc (.cells Tryz.zeroCells92 92))=.ok () ((w.alloc (.cells C 92)).alloc (.cells C 92))):=hsc;clear hsc;have H3:Hid (∀ x:UInt8,C[x.toNat]?=some (.bool (c3 x))):=hC3;have H1:Hid (C.size=256):=hC1;clear hC3 hC2 hC1;have h8z:decide ((8:Int)<(l.length:Int))=true:=decide_eq_true (by omega);go_enter Tryz.func182,Tryz.ntmps182;go_wp2_with (first | (go_at_call 204;refine(shouldUse_any _ _).mono ?_;rintro e w' ⟨rfl,rfl⟩;rw[h8z]) | (go_at_call 52;refine HM.out.mono ?_;rintro e w' ⟨rfl,rfl⟩));rw[HS.out];simp only[Result.andThen];rw[Oper.upon_skip];go_wp2
 go_loop [8] (fun i=>∃ n:Nat,n<=l.length/\i=.int .i64 n/\(l.take n).any c3=false) (fun i=>l.length-(intOf i).toNat)
 case atStart=>exact⟨0,Nat.zero_le _,rfl,rfl⟩
 case round =>
  obtain⟨n,hn1,rfl,ht⟩:=hrel;have HT:Hid ((l.take n).any c3=false):=ht;clear ht;by_cases hlt:n<l.length
  ·have hg:∀ h,(mk l)[n]'h=l.getD n 0:=fun h=>mk_getD l n h
   have hlt':n<(mk l).size:=by rw[mk_size];exact hlt
   have hsn:=any_take_snoc l n hlt;rw[HT.out,Bool.false_or]at hsn;have HSN:Hid ((l.take (n+1)).any c3=c3 (l.getD n 0)):=hsn;have hhit:=any_hit l n hlt;have HH:Hid (c3 (l.getD n 0)=true->anyB l=true):=hhit;clear hsn hhit
   have hcell:((w.alloc (.cells C 92)).alloc (.cells C 92)).cell? ⟨w.heap.size+1,(l.getD n 0).toNat,none⟩=some (.bool (c3 (l.getD n 0))):=by
    rw[World.cell?_alloc_at _ _ _ _ (by simp),H3.out]
   have hcon:=Any.asciiSet_contains lays228 (w.heap.size+1) (l.getD n 0) (c3 (l.getD n 0)) _ hcell;have HC:Hid (Calls Tryz.prog 80 #[.pointer (some ⟨w.heap.size+1,0,none⟩),.int .u8 ((l.getD n 0).toNat:Int)] ((w.alloc (.cells C 92)).alloc (.cells C 92)) fun e w'=>e=.returned (.bool (c3 (l.getD n 0)))/\w'=((w.alloc (.cells C 92)).alloc (.cells C 92))):=hcon;clear hcon hcell;generalize l.getD n 0=b at hg HSN HH HC;cases hb:c3 b
   ·rw[hb]at HC HSN;go_wp2_with (first | (go_at_call 80;refine HC.out.mono ?_;rintro e w' ⟨rfl,rfl⟩));go_round
    case rel=>exact⟨n+1,by omega,by go_num,HSN.out⟩
    case measure=>simp[intOf];omega
   ·rw[hb]at HC;go_wp2_with (first | (go_at_call 80;refine HC.out.mono ?_;rintro e w' ⟨rfl,rfl⟩));go_ret;refine⟨⟨(n:Int),rfl,?_⟩,((Below.refl _ _).alloc (Nat.le_refl _) _).alloc (by simp) _⟩;rw[HH.out hb];simp
  ·have HN:Hid (anyB l=false):=by
    have:=HT.out;rw[List.take_of_length_le (by omega)]at this;exact this
   go_wp2;go_ret;refine⟨⟨-1,rfl,?_⟩,((Below.refl _ _).alloc (Nat.le_refl _) _).alloc (by simp) _⟩;rw[HN.out];rfl
end Pln
namespace Pln
open Utf Rws
open Go.RowKit
theorem enc_last (r:Int) (h:128<=r) (h2:r<=1114111):∃ (q:List UInt8) (c:UInt8),Utf8.encode r=mk (q++[c])/\(q.length=1\/q.length=2\/q.length=3)/\128<=c.toNat:=by
 have e0:Utf8.encode r=Utf8.encode r:=rfl;have hl:∀ n:Nat,128<=(UInt8.ofNat (128+n % 64)).toNat:=fun n=>by rw[UInt8.toNat_ofNat'];omega
 unfold Utf8.encode
 have hc:128<=(if Utf8.valid r=true then r.toNat else Utf8.runeError):=by
  split
  ·omega
  ·decide
 generalize (if Utf8.valid r=true then r.toNat else Utf8.runeError)=c at hc;simp only;rw[if_neg (by omega)];by_cases h1:c<2048
 ·rw[if_pos h1];exact⟨[UInt8.ofNat (192+c / 64)],UInt8.ofNat (128+c % 64),rfl,.inl rfl,hl c⟩
 ·rw[if_neg h1];by_cases h3:c<65536
  ·rw[if_pos h3];exact⟨[UInt8.ofNat (224+c / 4096),UInt8.ofNat (128+c / 64 % 64)],UInt8.ofNat (128+c % 64),rfl,.inr (.inl rfl),hl c⟩
  ·rw[if_neg h3];exact⟨[UInt8.ofNat (240+c / 262144),UInt8.ofNat (128+c / 4096 % 64),UInt8.ofNat (128+c / 64 % 64)],UInt8.ofNat (128+c % 64),rfl,.inr (.inr rfl),hl c⟩
theorem has_c3 (b:UInt8):has b [9,10,13]=c3 b:=by
 unfold has c3;simp only[List.any_cons,List.any_nil,Bool.or_false];rw[Bool.or_assoc];congr 1
 ·exact Bool.beq_comm
 ·congr 1<;>exact Bool.beq_comm
theorem rune_ascii (b:UInt8) (w:World) (h:b.toNat<128):Calls Tryz.prog 107 #[.string ⟨#[9,10,13]⟩,.int .i32 b.toNat] w fun e w'=>(∃ r:Int,e=.returned (.int .i64 r)/\decide (0<=r)=c3 b)/\w=w':=by
 have h0:(0:Int)<=(b.toNat:Int):=by omega
 have h1:(b.toNat:Int)<128:=by omega
 have HI:Hid (decide (0<=idx b (⟨#[9,10,13]⟩:ByteArray).data.toList)=c3 b):=by
  rw[idx_has];exact has_c3 b
 go_enter Tryz.func107,Tryz.ntmps107;go_wp2_with (first | (go_at_call 37;refine(indexByte_any _ b _).mono ?_;rintro e w' ⟨rfl,rfl⟩));go_ret;exact⟨⟨_,rfl,HI.out⟩,rfl⟩
theorem rune_error (w:World):Calls Tryz.prog 107 #[.string ⟨#[9,10,13]⟩,.int .i32 65533] w fun e w'=>e=.returned (.int .i64 (-1))/\Below w.heap.size w w':=by
 have n0:=fun ty=>run_next_any (P:=Tryz.prog) w ⟨#[9,10,13]⟩ 0 ty (by decide)
 have n1:=fun ty=>run_next_any (P:=Tryz.prog) w ⟨#[9,10,13]⟩ 1 ty (by decide)
 have n2:=fun ty=>run_next_any (P:=Tryz.prog) w ⟨#[9,10,13]⟩ 2 ty (by decide)
 have n3:=fun ty=>run_next_end (P:=Tryz.prog) w ⟨#[9,10,13]⟩ 3 ty (by decide)
 rw[show Utf8.decode ⟨#[9,10,13]⟩ 0=(9,1) by decide]at n0;rw[show Utf8.decode ⟨#[9,10,13]⟩ 1=(10,1) by decide]at n1;rw[show Utf8.decode ⟨#[9,10,13]⟩ 2=(13,1) by decide]at n2;go_enter Tryz.func107,Tryz.ntmps107;go_wp2
 go_loopw [5,6] (fun _ _ wr=>∃ n:Nat,n<=3/\wr=w.iter ⟨#[9,10,13]⟩ n) (fun _ _ wr=>3-wr.iterPos w.heap.size)
 case atStart=>exact⟨0,by decide,rfl⟩
 case round =>
  obtain⟨n,hn,rfl⟩:=hrel;have h4:n=0\/n=1\/n=2\/n=3:=by omega
  rcases h4 with rfl | rfl | rfl | rfl
  ·clear n1 n2 n3;go_wp2;go_roundw
   case rel=>exact⟨1,by decide,rfl⟩
   case measure=>simp
  ·clear n0 n2 n3;go_wp2;go_roundw
   case rel=>exact⟨2,by decide,rfl⟩
   case measure=>simp
  ·clear n0 n1 n3;go_wp2;go_roundw
   case rel=>exact⟨3,by decide,rfl⟩
   case measure=>simp
  ·clear n0 n1 n2;go_wp2;go_ret;exact⟨rfl,(Below.refl _ _).alloc (Nat.le_refl _) _⟩
theorem idx_one (c:UInt8) (h:128<=c.toNat) (l:List UInt8) (hl:∀ b∈l,b.toNat<128):idx c l= -1:=by
 refine idx_no ?_;unfold has;rw[List.any_eq_false];intro x hx;have:=hl x hx;simp only[beq_iff_eq];rintro rfl;omega
theorem rune_high (r:Int) (w:World) (h:128<=r) (h2:r<=1114111) (hv:Lib.validRune r=true) (hn:r≠65533):Calls Tryz.prog 107 #[.string ⟨#[9,10,13]⟩,.int .i32 r] w fun e w'=>e=.returned (.int .i64 (-1))/\Below w.heap.size w w':=by
 obtain⟨q,c,he,hq,hc⟩:=enc_last r h h2
 have HV:Hid (Calls Tryz.prog 123 #[.int .i32 r] w fun e w'=>e=.returned (.bool true)/\w'=w):=by
  have:=Any.utf8_ValidRune lays119 r w;rw[hv]at this;exact this
 clear hv;have hne:(r==65533)=false:=by simpa using hn
 have hlt: ¬ r<128:=by omega
 have h0:0<=r:=by omega
 have hsz:(mk (q++[c])).size=q.length+1:=by rw[mk_size];simp
 have hg:∀ h,(mk (q++[c]))[q.length]'h=c:=fun h=>by rw[mk_get];simp
 have hx13:=idx_one c hc [13] (by decide);have hx0:=idx_one c hc [] (by simp);have hk1:∀ h,((⟨#[9,10,13]⟩:ByteArray)[1]'h)=10:=fun _=>rfl
 have hk2:∀ h,((⟨#[9,10,13]⟩:ByteArray)[2]'h)=13:=fun _=>rfl
 have hd10:((10:Int)==(c.toNat:Int))=false:=by rw[beq_eq_false_iff_ne];omega
 have hd13:((13:Int)==(c.toNat:Int))=false:=by rw[beq_eq_false_iff_ne];omega
 have hn10:((10:Int)!=(c.toNat:Int))=true:=by rw[bne_iff_ne];omega
 have hn13:((13:Int)!=(c.toNat:Int))=true:=by rw[bne_iff_ne];omega
 rcases hq with hq | hq | hq
 ·rw[hq]at hsz hg
  have HI:Hid (∀ w,Calls Tryz.prog 37 #[.string ⟨#[13]⟩,.int .u8 (c.toNat:Int)] w fun e w'=>e=.returned (.int .i64 (-1))/\w'=w):=fun w=>(indexByte_any ⟨#[13]⟩ c w).mono (by
   rintro e w' ⟨rfl,rfl⟩;exact⟨by rw[show (⟨#[13]⟩:ByteArray).data.toList=[13]from rfl,hx13],rfl⟩)
  have hex:(⟨#[9,10,13]⟩:ByteArray).extract 2 3=⟨#[13]⟩:=by decide
  have hw2:IntKind.i64.wrap 2=2:=by decide
  go_enter Tryz.func107,Tryz.ntmps107;go_wp2_with (first | (go_at_call 123;refine HV.out.mono ?_;rintro e w' ⟨rfl,rfl⟩));go_step3;go_wp2
  go_loop [9] (fun i=>i=.int .i64 1) (fun _=>0)
  case atStart=>exact rfl
  case round =>
   obtain rfl:=hrel;go_wp2;go_step3;go_wp2;go_region
   all_goals go_wp2
   go_quiet (exact(HI.out _).mono (fun _ _ ⟨he,hm⟩=>⟨he,_,hm⟩));go_wp2;rw[Exit.noGoto_ret];simp only[Exit.inBlock];rename_i Q5 _ _ _ _ _;simp only[Q5,Exit.then,Exit.inBlock,Exit.noGoto_ret];go_ret;exact⟨rfl,⟨rfl,rfl,rfl,Nat.le_refl _,fun _ _=>rfl⟩⟩
 ·rw[hq]at hsz hg
  have HI:Hid (∀ w,Calls Tryz.prog 37 #[.string ⟨#[]⟩,.int .u8 (c.toNat:Int)] w fun e w'=>e=.returned (.int .i64 (-1))/\w'=w):=fun w=>(indexByte_any ⟨#[]⟩ c w).mono (by
   rintro e w' ⟨rfl,rfl⟩;exact⟨by rw[show (⟨#[]⟩:ByteArray).data.toList=[]from rfl,hx0],rfl⟩)
  have hex:(⟨#[9,10,13]⟩:ByteArray).extract 3 3=⟨#[]⟩:=by decide
  have hw2:IntKind.i64.wrap 3=3:=by decide
  go_enter Tryz.func107,Tryz.ntmps107;go_wp2_with (first | (go_at_call 123;refine HV.out.mono ?_;rintro e w' ⟨rfl,rfl⟩));go_step3;go_wp2
  go_loop [9] (fun i=>i=.int .i64 2) (fun _=>0)
  case atStart=>exact rfl
  case round =>
   obtain rfl:=hrel;go_wp2;go_step3;go_wp2;go_region
   all_goals go_wp2
   go_quiet (exact(HI.out _).mono (fun _ _ ⟨he,hm⟩=>⟨he,_,hm⟩));go_wp2;rw[Exit.noGoto_ret];simp only[Exit.inBlock];rename_i Q5 _ _ _ _ _;simp only[Q5,Exit.then,Exit.inBlock,Exit.noGoto_ret];go_ret;exact⟨rfl,⟨rfl,rfl,rfl,Nat.le_refl _,fun _ _=>rfl⟩⟩
 ·rw[hq]at hsz hg;go_enter Tryz.func107,Tryz.ntmps107;go_wp2_with (first | (go_at_call 123;refine HV.out.mono ?_;rintro e w' ⟨rfl,rfl⟩));go_step3;go_wp2
  go_loop [9] (fun i=>i=.int .i64 3) (fun _=>0)
  case atStart=>exact rfl
  case round =>
   obtain rfl:=hrel;go_wp2;go_ret;exact⟨rfl,⟨rfl,rfl,rfl,Nat.le_refl _,fun _ _=>rfl⟩⟩
end Pln
namespace Pln
open Utf Rws
open Go.RowKit
def setIter (w:World) (b:Nat) (s:ByteArray) (p:Nat):World:= { w with heap:=w.heap.setIfInBounds b (.stringIter s p) }
theorem setIter_size (w:World) (b:Nat) (s:ByteArray) (p:Nat):(setIter w b s p).heap.size=w.heap.size:=by simp[setIter]
theorem setIter_at (w:World) (b:Nat) (s:ByteArray) (p:Nat) (h:b<w.heap.size):(setIter w b s p).heap[b]?=some (.stringIter s p):=by simp[setIter,h]
theorem setIter_below {w0 w:World} {b:Nat} (hb:Below b w0 w) (s:ByteArray) (p:Nat):Below b w0 (setIter w b s p) :=
 ⟨hb.os,hb.tape,hb.output,by rw[setIter_size];exact hb.size,fun k hk=>by
  rw[<-hb.block k hk];simp only[setIter];rw[Array.getElem?_setIfInBounds,if_neg (by omega)]⟩
theorem run_next_on (w:World) (b:Nat) (s:ByteArray) (pos:Nat) (ty:TypeId) (hb:w.heap[b]?=some (.stringIter s pos)) (h:pos<s.size) :
  (Instr.next (.pointer (some ⟨b,0,none⟩)) true ty).run Tryz.prog w=.ok (.tuple #[.bool true,.int .i64 pos,.int .i32 (Utf8.decode s pos).1]) (setIter w b s (pos+(Utf8.decode s pos).2)):=by
 simp only[Instr.next,getObj,setObj,Sem.run_bind,Sem.run,hb,Result.andThen,h,if_true];simp[goInt,setIter]
theorem run_next_stop (w:World) (b:Nat) (s:ByteArray) (pos:Nat) (ty:TypeId) (hb:w.heap[b]?=some (.stringIter s pos)) (h: ¬ pos<s.size) :
  (Instr.next (.pointer (some ⟨b,0,none⟩)) true ty).run Tryz.prog w=.ok (.tuple #[.bool false]) w:=by
 simp[Instr.next,getObj,Sem.run,hb,h]
theorem get_mk (l:List UInt8) (i:Nat) (h:i<l.length):((mk l).get! i)=l.getD i 0:=by
 rw[<-mk_getD l i (by rw[mk_size];exact h)];simp[ByteArray.get!,getElem!_pos,mk_size,h];rfl
theorem cont_hi {x:Nat} (h:x / 64=2):128<=x:=by omega
def cnt (s:ByteArray) (i k:Nat):Bool:=decide (i+k<s.size) && (s.get! (i+k)).toNat / 64==2
def okD (c1 c2 c3:Bool) (d:Nat × Nat):Prop:=128<=d.1/\d.1<=1114111/\Lib.validRune (d.1:Int)=true/\(d.2=1\/(d.2=2/\c1=true)\/(d.2=3/\c1=true/\c2=true)\/(d.2=4/\c1=true/\c2=true/\c3=true))
theorem okD_err (c1 c2 c3:Bool):okD c1 c2 c3 (Utf8.runeError,1):=⟨by decide,by decide,by decide,.inl rfl⟩
theorem val_ok {c:Nat} (hc:Utf8.valid (c:Int)=true):c<=1114111/\Lib.validRune (c:Int)=true:=by
 unfold Utf8.valid at hc;unfold Lib.validRune;simp at hc |-;omega
set_option maxHeartbeats 4000000 in
theorem decode_ok (s:ByteArray) (i:Nat) (h:128<=(s.get! (i+0)).toNat):okD (cnt s i 1) (cnt s i 2) (cnt s i 3) (Utf8.decode s i):=by
 unfold Utf8.decode cnt;dsimp only;split
 ·rename_i hlt;exact absurd hlt (by omega)
 split
 ·rename_i q1;rw[Bool.and_eq_true]at q1;split
  ·rename_i r1;refine⟨r1,by simp only;omega,?_,.inr (.inl ⟨rfl,q1.2⟩)⟩;unfold Lib.validRune;simp only[decide_eq_true_eq];omega
  ·exact okD_err _ _ _
 ·split
  ·rename_i q2;rw[Bool.and_eq_true,Bool.and_eq_true]at q2;split
   ·rename_i r2;rw[Bool.and_eq_true,decide_eq_true_eq]at r2;obtain⟨v1,v2⟩:=val_ok r2.2;exact⟨by simp only;omega,v1,v2,.inr (.inr (.inl ⟨rfl,q2.1.2,q2.2⟩))⟩
   ·exact okD_err _ _ _
  ·split
   ·rename_i q3;rw[Bool.and_eq_true,Bool.and_eq_true,Bool.and_eq_true]at q3;split
    ·rename_i r3;rw[Bool.and_eq_true,decide_eq_true_eq]at r3;obtain⟨v1,v2⟩:=val_ok r3.2;exact⟨by simp only;omega,v1,v2,.inr (.inr (.inr ⟨rfl,q3.1.1.2,q3.1.2,q3.2⟩))⟩
    ·exact okD_err _ _ _
   ·exact okD_err _ _ _
theorem cnt_hi (l:List UInt8) (p k:Nat) (h:cnt (mk l) p k=true):p+k<l.length/\128<=(l.getD (p+k) 0).toNat:=by
 unfold cnt at h;rw[Bool.and_eq_true,decide_eq_true_eq,beq_iff_eq,mk_size]at h;refine⟨h.1,?_⟩;rw[<-get_mk l (p+k) h.1];exact cont_hi h.2
theorem decode_wide (l:List UInt8) (p:Nat) (h:p<l.length) (hb:128<=(l.getD p 0).toNat) :
  128<=(Utf8.decode (mk l) p).1/\(Utf8.decode (mk l) p).1<=1114111/\Lib.validRune ((Utf8.decode (mk l) p).1:Int)=true/\1<=(Utf8.decode (mk l) p).2/\p+(Utf8.decode (mk l) p).2<=l.length /\
  ∀ j,p<=j->j<p+(Utf8.decode (mk l) p).2->128<=(l.getD j 0).toNat:=by
 have h0:128<=((mk l).get! (p+0)).toNat:=by rw[Nat.add_zero,get_mk l p h];exact hb
 have hd:=decode_ok (mk l) p h0;obtain⟨d1,d2,d3,d4⟩:=hd;refine⟨d1,d2,d3,?_⟩;generalize (Utf8.decode (mk l) p).2=k at d4;rcases d4 with rfl | ⟨rfl,e1⟩ | ⟨rfl,e1,e2⟩ | ⟨rfl,e1,e2,e3⟩
 ·refine⟨by omega,by omega,fun j h1 h2=> ?_⟩;have:j=p:=by omega
  rw[this];exact hb
 ·have f1:=cnt_hi l p 1 e1;refine⟨by omega,by omega,fun j h1 h2=> ?_⟩;have:j=p\/j=p+1:=by omega
  rcases this with rfl | rfl
  ·exact hb
  ·exact f1.2
 ·have f1:=cnt_hi l p 1 e1;have f2:=cnt_hi l p 2 e2;refine⟨by omega,by omega,fun j h1 h2=> ?_⟩;have:j=p\/j=p+1\/j=p+2:=by omega
  rcases this with rfl | rfl | rfl
  ·exact hb
  ·exact f1.2
  ·exact f2.2
 ·have f1:=cnt_hi l p 1 e1;have f2:=cnt_hi l p 2 e2;have f3:=cnt_hi l p 3 e3;refine⟨by omega,by omega,fun j h1 h2=> ?_⟩;have:j=p\/j=p+1\/j=p+2\/j=p+3:=by omega
  rcases this with rfl | rfl | rfl | rfl
  ·exact hb
  ·exact f1.2
  ·exact f2.2
  ·exact f3.2
theorem decode_low (l:List UInt8) (p:Nat) (h:p<l.length) (hb:(l.getD p 0).toNat<128):Utf8.decode (mk l) p=((l.getD p 0).toNat,1):=by
 have hp:p<(mk l).size:=by rw[mk_size];exact h
 have:=decode_ascii (mk l) p hp (by rw[mk_getD];exact hb);rw[mk_getD]at this;exact this
theorem c3_hi {b:UInt8} (h:128<=b.toNat):c3 b=false:=by
 unfold c3;simp only[Bool.or_eq_false_iff,beq_eq_false_iff_ne];refine⟨⟨?_,?_⟩,?_⟩<;>rintro rfl<;>revert h<;>decide
theorem any_next (l:List UInt8) (p:Nat) (h:p<l.length) (h0:(l.take p).any c3=false) (hc:c3 (l.getD p 0)=false) :
  1<=(Utf8.decode (mk l) p).2/\p+(Utf8.decode (mk l) p).2<=l.length/\(l.take (p+(Utf8.decode (mk l) p).2)).any c3=false:=by
 by_cases hb:(l.getD p 0).toNat<128
 ·rw[decode_low l p h hb];refine⟨Nat.le_refl 1,by simp only;omega,?_⟩;simp only;rw[any_take_snoc l p h,h0,hc];rfl
 ·obtain⟨_,_,_,d1,d2,d3⟩:=decode_wide l p h (by omega);refine⟨d1,d2,?_⟩;generalize (Utf8.decode (mk l) p).2=k at d1 d2 d3
  have:∀ m,m<=k->(l.take (p+m)).any c3=false:=by
   intro m
   induction m with
   | zero=>intro _;exact h0
   | succ m ih =>
    intro hm;rw[<-Nat.add_assoc,any_take_snoc l (p+m) (by omega),ih (by omega),c3_hi (d3 (p+m) (by omega) (by omega))];rfl
  exact this k (Nat.le_refl _)
def QRes (b:UInt8) (e:Ending):Prop:=∃ q:Int,e=.returned (.int .i64 q)/\decide (0<=q)=c3 b
theorem rune_any (l:List UInt8) (p:Nat) (w:World) (h:p<l.length):Calls Tryz.prog 107 #[.string ⟨#[9,10,13]⟩,.int .i32 ((Utf8.decode (mk l) p).1:Int)] w fun e w'=>QRes (l.getD p 0) e/\Below w.heap.size w w':=by
 by_cases hb:(l.getD p 0).toNat<128
 ·rw[decode_low l p h hb];refine(rune_ascii (l.getD p 0) w hb).mono ?_;rintro e w' ⟨⟨q,h1,h2⟩,rfl⟩;exact⟨⟨q,h1,h2⟩,Below.refl _ _⟩
 ·obtain⟨d1,d2,d3,_⟩:=decode_wide l p h (by omega);have hc:=c3_hi (b:=l.getD p 0) (by omega);by_cases he:(Utf8.decode (mk l) p).1=65533
  ·rw[he];refine(rune_error w).mono ?_;rintro e w' ⟨h1,h2⟩;exact⟨⟨-1,h1,by rw[hc];rfl⟩,h2⟩
  ·refine(rune_high ((Utf8.decode (mk l) p).1:Int) w (by omega) (by omega) d3 (by omega)).mono ?_;rintro e w' ⟨h1,h2⟩;exact⟨⟨-1,h1,by rw[hc];rfl⟩,h2⟩
theorem indexAny_short (l:List UInt8) (w:World) (hs:l.length<=140737488351232) (h8: ¬ 8<l.length):Calls Tryz.prog 182 #[.string (mk l),.string ⟨#[9,10,13]⟩] w fun e w'=>IxRes l e/\Below w.heap.size w w':=by
 have hsz:=mk_size l;have h8z:decide ((8:Int)<(l.length:Int))=false:=decide_eq_false (by omega);go_enter Tryz.func182,Tryz.ntmps182;go_wp2_with (first | (go_at_call 204;refine(shouldUse_any _ _).mono ?_;rintro e w' ⟨rfl,rfl⟩;rw[h8z]))
 go_loopg [9,10] l.length (fun g _ _ wr=>∃ p:Nat,p+g=l.length/\Below w.heap.size w wr/\wr.heap[w.heap.size]?=some (.stringIter (mk l) p)/\(l.take p).any c3=false)
 case atStart=>exact⟨0,by omega,(Below.refl _ _).alloc (Nat.le_refl _) _,World.iter_heap _ _ _,rfl⟩
 case round =>
  obtain⟨p,hpg,hbe,hit,ht⟩:=hrel;have HT:Hid ((l.take p).any c3=false):=ht;clear ht
  cases gk with
  | zero =>
   have hnx:=fun ty=>run_next_stop wr w.heap.size (mk l) p ty hit (by omega)
   have HN:Hid (anyB l=false):=by
    have:=HT.out;rw[List.take_of_length_le (by omega)]at this;exact this
   clear hit;go_wp2;go_ret;exact⟨⟨-1,rfl,by rw[HN.out];rfl⟩,hbe⟩
  | succ g =>
   have hlt:p<l.length:=by omega
   have hnx:=fun ty=>run_next_on wr w.heap.size (mk l) p ty hit (by omega)
   have hbs:w.heap.size<wr.heap.size:=by
    rcases Nat.lt_or_ge w.heap.size wr.heap.size with h | h
    ·exact h
    ·rw[Array.getElem?_eq_none (by omega)]at hit;cases hit
   have hb2:=setIter_below hbe (mk l) (p+(Utf8.decode (mk l) p).2);have hit2:=setIter_at wr w.heap.size (mk l) (p+(Utf8.decode (mk l) p).2) hbs;have hz2:=setIter_size wr w.heap.size (mk l) (p+(Utf8.decode (mk l) p).2);have HR:=rune_any l p (setIter wr w.heap.size (mk l) (p+(Utf8.decode (mk l) p).2)) hlt;have HHit:=any_hit l p hlt;have HNx:=any_next l p hlt HT.out;generalize (Utf8.decode (mk l) p).1=r at hnx HR;generalize (Utf8.decode (mk l) p).2=k at hnx HR hb2 hit2 hz2 HNx;generalize l.getD p 0=b at HR HHit HNx;obtain⟨W,HW⟩:∃ W,Hid (setIter wr w.heap.size (mk l) (p+k)=W):=⟨_,rfl⟩;rw[HW.out]at hnx HR hb2 hit2 hz2;have HRR:Hid (Calls Tryz.prog 107 #[.string ⟨#[9,10,13]⟩,.int .i32 (r:Int)] W fun e w'=>QRes b e/\Below W.heap.size W w'):=HR;have HIT:Hid (W.heap[w.heap.size]?=some (.stringIter (mk l) (p+k))):=hit2;have HZ:Hid (W.heap.size=wr.heap.size):=hz2;have HHI:Hid (c3 b=true->anyB l=true):=HHit;have HNN:Hid (c3 b=false->1<=k/\p+k<=l.length/\(l.take (p+k)).any c3=false):=HNx;clear HR hit2 hz2 HHit HNx hit HW;cases hb:c3 b
   ·go_wp2_with (first | (go_at_call 107;refine HRR.out.mono ?_;rintro e w2 ⟨⟨q,rfl,hq⟩,hb3⟩;rw[hb]at hq));obtain⟨n1,n2,n3⟩:=HNN.out hb
    go_roundg (l.length-(p+k))
    case measure=>omega
    case rel=>exact⟨p+k,by omega,hb2.trans (hb3.mono (by rw[HZ.out];omega)),(hb3.block _ (by rw[HZ.out];exact hbs)).trans HIT.out,n3⟩
   ·go_wp2_with (first | (go_at_call 107;refine HRR.out.mono ?_;rintro e w2 ⟨⟨q,rfl,hq⟩,hb3⟩;rw[hb]at hq));go_ret;exact⟨⟨(p:Int),rfl,by rw[HHI.out hb];simp⟩,hb2.trans (hb3.mono (by rw[HZ.out];omega))⟩
theorem containsAny_any (l:List UInt8) (w:World) (hs:l.length<=140737488351232):Calls Tryz.prog 158 #[.string (mk l),.string ⟨#[9,10,13]⟩] w fun e w'=>e=.returned (.bool (anyB l))/\Below w.heap.size w w':=by
 have HI:Hid (Calls Tryz.prog 182 #[.string (mk l),.string ⟨#[9,10,13]⟩] w fun e w'=>IxRes l e/\Below w.heap.size w w'):=by
  by_cases h8:8<l.length
  ·exact indexAny_long l w hs h8
  ·exact indexAny_short l w hs h8
 go_enter Tryz.func158,Tryz.ntmps158;go_wp2_with (first | (go_at_call 182;refine HI.out.mono ?_;rintro e w' ⟨⟨q,rfl,hq⟩,hb⟩));go_ret;exact⟨rfl,hb⟩
end Pln
namespace Pln
open Utf Rws
open Go.RowKit
theorem inFlow_any (w:World) (bf bs:Nat) (f:Bool) (l:List UInt8) (i:Nat) (hs:l.length<=562949953421312) (hi:i<l.length)
  (hf:w.cell? ⟨bf,0,none⟩=some (.bool f)) (hl:w.cell? ⟨bs,0,none⟩=some (.string (mk l))) :
  Calls Tryz.prog 180 #[.int .i64 i,.pointer (some ⟨bf,0,none⟩),.pointer (some ⟨bs,0,none⟩)] w fun e w'=>e=.returned (.bool (f && fl (l.getD i 0)))/\w=w':=by
 have hsz:=mk_size l;have hg:∀ h,(mk l)[i]'h=l.getD i 0:=fun h=>mk_getD l i h
 have hlt:i<(mk l).size:=by rw[mk_size];exact hi
 have HF:Hid (fl (l.getD i 0)=has (l.getD i 0) (⟨#[44,91,93,123,125]⟩:ByteArray).data.toList):=rfl;cases f
 ·go_enter Tryz.func180,Tryz.ntmps180;go_wp2;go_ret;exact⟨rfl,rfl⟩
 ·generalize l.getD i 0=b at hg HF |-;go_enter Tryz.func180,Tryz.ntmps180;go_wp2_with (first | (go_at_call 159;refine(isOneOf_any _ _ _).mono ?_;rintro e w' ⟨rfl,rfl⟩));go_ret;rw[HF.out];exact⟨rfl,rfl⟩
theorem b58 (b:UInt8):((b.toNat:Int)==58)=(b==58):=by
 rw[Bool.eq_iff_iff];simp only[beq_iff_eq];constructor
 ·intro h;apply UInt8.toNat_inj.1;have:b.toNat=58:=by omega
  rw[this];rfl
 ·rintro rfl;rfl
theorem b35 (b:UInt8):((b.toNat:Int)==35)=(b==35):=by
 rw[Bool.eq_iff_iff];simp only[beq_iff_eq];constructor
 ·intro h;apply UInt8.toNat_inj.1;have:b.toNat=35:=by omega
  rw[this];rfl
 ·rintro rfl;rfl
theorem ends_any (w:World) (bf bs bn:Nat) (f:Bool) (l:List UInt8) (i:Nat) (hs:l.length<=562949953421312) (hi:i<l.length)
  (hf:w.cell? ⟨bf,0,none⟩=some (.bool f)) (hl:w.cell? ⟨bs,0,none⟩=some (.string (mk l))) (hn:w.cell? ⟨bn,0,none⟩=some (.func (.func 180) #[] #[.pointer (some ⟨bf,0,none⟩),.pointer (some ⟨bs,0,none⟩)])) :
  Calls Tryz.prog 181 #[.int .i64 i,.pointer (some ⟨bs,0,none⟩),.pointer (some ⟨bn,0,none⟩)] w fun e w'=>e=.returned (.bool (en l f i))/\w=w':=by
 have hsz:=mk_size l;have hg:∀ h,(mk l)[i]'h=l.getD i 0:=fun h=>mk_getD l i h
 have hlt:i<(mk l).size:=by rw[mk_size];exact hi
 have hb58:=b58 (l.getD i 0);have hb35:=b35 (l.getD i 0);cases c1:(l.getD i 0==58)
 ·rw[c1]at hb58;cases c2:(l.getD i 0==35)
  ·rw[c2]at hb35;have HE:Hid (en l f i=(f && fl (l.getD i 0))):=by unfold en;rw[c1,c2];rfl
   clear c1 c2;obtain⟨V,HV⟩:∃ V,Hid ((f && fl (l.getD i 0))=V):=⟨_,rfl⟩;have hI:=inFlow_any w bf bs f l i hs hi hf hl;rw[HV.out]at hI;have HI:Hid (Calls Tryz.prog 180 #[.int .i64 i,.pointer (some ⟨bf,0,none⟩),.pointer (some ⟨bs,0,none⟩)] w fun e w'=>e=.returned (.bool V)/\w=w'):=hI;clear hI;generalize l.getD i 0=b at hg hb58 hb35 HE HV;go_enter Tryz.func181,Tryz.ntmps181;go_wp2_with (first | (go_at_call 180;refine HI.out.mono ?_;rintro e w' ⟨rfl,rfl⟩));go_ret;rw[HE.out,HV.out];exact⟨rfl,rfl⟩
  ·rw[c2]at hb35;have HE:Hid (en l f i=(decide (0<i) && l.getD (i-1) 0==32)):=by unfold en;rw[c1,c2];rfl
   clear c1 c2;generalize l.getD i 0=b at hg hb58 hb35;by_cases h0:0<i
   ·obtain⟨m,rfl⟩:∃ m,i=m+1:=⟨i-1,by omega⟩;have hlm:m<(mk l).size:=by omega
    have hg2:∀ h,(mk l)[m]'h=l.getD m 0:=fun h=>mk_getD l m h
    have hb2:=b32 (l.getD m 0);have HE2:Hid (en l f (m+1)=is32 (l.getD m 0)):=by rw[HE.out];simp;rfl
    generalize l.getD m 0=b2 at hg2 hb2 HE2;generalize is32 b2=V at hb2 HE2;go_enter Tryz.func181,Tryz.ntmps181;go_wp2;go_ret;rw[HE2.out];exact⟨rfl,rfl⟩
   ·obtain rfl:i=0:=by omega
    have HE2:Hid (en l f 0=false):=by rw[HE.out];rfl
    go_enter Tryz.func181,Tryz.ntmps181;go_wp2;go_ret;rw[HE2.out];exact⟨rfl,rfl⟩
 ·rw[c1]at hb58;have HE:Hid (en l f i=(i+1==l.length || l.getD (i+1) 0==32 || (f && fl (l.getD (i+1) 0)))):=by unfold en;rw[c1];rfl
  clear c1 hb35;generalize l.getD i 0=b at hg hb58;by_cases h1:i+1=l.length
  ·have HE2:Hid (en l f i=true):=by rw[HE.out];simp[h1,Hid]
   have hq:((i:Int)+1==(l.length:Int))=true:=by rw[beq_iff_eq];omega
   clear h1;go_enter Tryz.func181,Tryz.ntmps181;go_wp2;go_ret;rw[HE2.out];exact⟨rfl,rfl⟩
  ·have hq:((i:Int)+1==(l.length:Int))=false:=by rw[beq_eq_false_iff_ne];omega
   have h2:i+1<l.length:=by omega
   have hlm:i+1<(mk l).size:=by omega
   have hg2:∀ h,(mk l)[i+1]'h=l.getD (i+1) 0:=fun h=>mk_getD l (i+1) h
   have hb2:=b32 (l.getD (i+1) 0);have hI:=inFlow_any w bf bs f l (i+1) hs h2 hf hl
   have HE2:Hid (en l f i=(is32 (l.getD (i+1) 0) || (f && fl (l.getD (i+1) 0)))):=by
    rw[HE.out];have e:(i+1==l.length)=false:=by simp;omega
    rw[e];rfl
   obtain⟨V,HV⟩:∃ V,Hid ((f && fl (l.getD (i+1) 0))=V):=⟨_,rfl⟩;rw[HV.out]at hI HE2
   have HI:Hid (Calls Tryz.prog 180 #[.int .i64 ((i:Int)+1),.pointer (some ⟨bf,0,none⟩),.pointer (some ⟨bs,0,none⟩)] w fun e w'=>e=.returned (.bool V)/\w=w'):=by
    have e:((i+1:Nat):Int)=(i:Int)+1:=by omega
    rw[e]at hI;exact hI
   clear hI HE HV h1;generalize l.getD (i+1) 0=b2 at hg2 hb2 HE2;cases hV2:is32 b2
   ·rw[hV2]at hb2 HE2;go_enter Tryz.func181,Tryz.ntmps181;go_wp2_with (first | (go_at_call 180;refine HI.out.mono ?_;rintro e w' ⟨rfl,rfl⟩));go_ret;rw[HE2.out];exact⟨rfl,rfl⟩
   ·rw[hV2]at hb2 HE2;go_enter Tryz.func181,Tryz.ntmps181;go_wp2;go_ret;rw[HE2.out];exact⟨rfl,rfl⟩
theorem ender_any (l:List UInt8) (f:Bool) (w:World) :
  Calls Tryz.prog 157 #[.string (mk l),.bool f] w fun e w'=>e=.returned (.func (.func 181) #[] #[.pointer (some ⟨w.heap.size,0,none⟩),.pointer (some ⟨w.heap.size+2,0,none⟩)])/\Below w.heap.size w w' /\
   w'.cell? ⟨w.heap.size+1,0,none⟩=some (.bool f)/\w'.cell? ⟨w.heap.size,0,none⟩=some (.string (mk l))/\w'.cell? ⟨w.heap.size+2,0,none⟩=some (.func (.func 180) #[] #[.pointer (some ⟨w.heap.size+1,0,none⟩),.pointer (some ⟨w.heap.size,0,none⟩)]):=by
 go_enter Tryz.func157,Tryz.ntmps157;go_wp2;go_ret;refine⟨rfl,?_,?_,?_,?_⟩
 ·exact(((Below.refl _ _).alloc (Nat.le_refl _) _).alloc (by simp) _).alloc (by simp;omega) _
 ·simp[go_sem]
 ·simp[go_sem]
 ·simp[go_sem]
theorem end_any (l:List UInt8) (f:Bool) (w:World) (hs:l.length<=562949953421312) :
  Calls Tryz.prog 140 #[.string (mk l),.bool f] w fun e w'=>e=.returned (.int .i64 (fin l f))/\Below w.heap.size w w':=by
 have hsz:=mk_size l;go_enter Tryz.func140,Tryz.ntmps140;go_wp2_with (first | (go_at_call 157;refine(ender_any _ _ _).mono ?_;rintro e W ⟨rfl,hb,hf,hl,hn⟩))
 go_loop [12] (fun i=>∃ n:Nat,n<=l.length/\i=.int .i64 n/\fin l f=fro l f (l.length-n) n) (fun i=>l.length-(intOf i).toNat)
 case atStart=>exact⟨0,Nat.zero_le _,rfl,rfl⟩
 case round =>
  obtain⟨n,hn1,rfl,ht⟩:=hrel;have HT:Hid (fin l f=fro l f (l.length-n) n):=ht;clear ht;by_cases hlt:n<l.length
  ·obtain⟨k,hk⟩:∃ k,l.length-n=k+1:=⟨l.length-n-1,by omega⟩;have hkn:k=l.length-(n+1):=by omega
   cases he:en l f n
   ·have HN:Hid (fin l f=fro l f (l.length-(n+1)) (n+1)):=by rw[HT.out,hk,fro,if_neg (by rw[he];simp),hkn];rfl
    clear hk hkn;go_wp2_with (first | (go_at_call 181;refine(ends_any _ _ _ _ _ _ _ hs hlt hf hl hn).mono ?_;rintro e w' ⟨rfl,rfl⟩));go_round
    case rel=>exact⟨n+1,by omega,by go_num,HN.out⟩
    case measure=>simp[intOf];omega
   ·have HN:Hid (fin l f=n):=by rw[HT.out,hk,fro,if_pos he];rfl
    clear hk hkn;go_wp2_with (first | (go_at_call 181;refine(ends_any _ _ _ _ _ _ _ hs hlt hf hl hn).mono ?_;rintro e w' ⟨rfl,rfl⟩));go_ret;rw[HN.out];exact⟨rfl,hb⟩
  ·have HN:Hid (fin l f=l.length):=by rw[HT.out,show l.length-n=0 by omega,fro];show n=l.length;omega
   go_wp2;go_ret;rw[HN.out];exact⟨rfl,hb⟩
theorem cut_any (l:List UInt8) (f:Bool) (w:World) (hs:l.length<=562949953421312) :
  Calls Tryz.prog 127 #[.string (mk l),.bool f] w fun e w'=>e=.returned (.tuple #[.string (mk (cutT l f)),.int .i64 (fin l f)])/\Below w.heap.size w w':=by
 have hsz:=mk_size l;have hle:=fin_le l f;have hex:(mk l).extract 0 (fin l f)=mk (l.take (fin l f)):=by rw[mk_ext];simp
 have hlt:(l.take (fin l f)).length<=562949953421312:=by rw[List.length_take];omega
 go_enter Tryz.func127,Tryz.ntmps127;go_wp2_with (first | (go_at_call 140;refine(end_any _ _ _ hs).mono ?_;rintro e W ⟨rfl,hb⟩) | (go_at_call 36;refine(trimRight_any _ _ hlt).mono ?_;rintro e w' ⟨rfl,rfl⟩));go_ret2;exact⟨rfl,hb⟩
end Pln
namespace Pln
open Utf Rws
open Go.RowKit
def powName:String:=match Rows.loadPartsRow.laid with
 | _::_::x::_=>x.1
 | _=>Rows.loadPartsRow.func
structure Tabs (w:World):Prop where
 pow:Lib.TabIs Tryz.prog w powName .u64 Lib.pow10Tab
 syn:∃ te pe,w.cell? ⟨3,0,none⟩=some (.iface te pe)
 rng:∃ te pe,w.cell? ⟨4,0,none⟩=some (.iface te pe)
theorem Tabs.later {w w':World} (h:Tabs w) (hb:Below w.heap.size w w'):Tabs w':=by
 obtain⟨h1,⟨t2,p2,h2⟩,⟨t3,p3,h3⟩⟩:=h;refine⟨?_,⟨t2,p2,?_⟩,⟨t3,p3,?_⟩⟩
 ·exact Joins.tab_stays (g:=7) (by kernel_rfl) h1 hb (Nat.le_refl _)
 ·exact(hb.cell (p:=⟨3,0,none⟩) (World.block_lt_of_cell? w _ h2)).trans h2
 ·exact(hb.cell (p:=⟨4,0,none⟩) (World.block_lt_of_cell? w _ h3)).trans h3
theorem below_grow (w:World) (k:Nat) (os:Array Obj):Below w.heap.size w (Sort.grow (w.drewN k) os) :=
 ⟨rfl,rfl,rfl,by simp[Sort.grow],fun i hi=>by simp[Sort.grow,Array.getElem?_append,hi]⟩
theorem itoa_any (n:Int) (w:World) (h:inI n) (hT:Tabs w):Calls Tryz.prog 176 #[.int .i64 n] w fun e w'=>e=.returned (.string (mk (Lib.itoa n)))/\Below w.heap.size w w':=by
 refine(Any.strconv_Itoa laysM171 n h.1 h.2 w hT.pow).mono ?_;rintro e w' ⟨rfl,k,os,rfl⟩;exact⟨rfl,below_grow w k os⟩
theorem text_any (n:Int) (w:World) (h:inI n) (hT:Tabs w):Calls Tryz.prog 153 #[.int .i64 n] w fun e w'=>e=.returned (.string (mk (Lib.itoa n)))/\Below w.heap.size w w':=by
 have h1:=h.1;have h2:=h.2;go_enter Tryz.func153,Tryz.ntmps153;go_wp2_with (first | (go_at_call 176;refine(itoa_any _ _ h hT).mono ?_;rintro e w' ⟨rfl,hb⟩));go_ret;exact⟨rfl,hb⟩
theorem eq_mk (a b:List UInt8):((mk a).toList==(mk b).toList)=(a==b):=by
 rw[ByteArray.toList_eq,ByteArray.toList_eq,mk_data,mk_data]
theorem number_any (l:List UInt8) (w:World) (hs:l.length<=140737488351232) (hT:Tabs w):Calls Tryz.prog 136 #[.string (mk l)] w fun e w'=>e=.returned (.tuple #[.int .i64 (numN l),.bool (numB l)])/\Below w.heap.size w w':=by
 have hsz:=mk_size l;cases ha:Lib.atoiAll l
 ·rename_i v;have hin:=atoi_in ha;have h1:=hin.1;have h2:=hin.2;have hA:=Any.strconv_Atoi_ok laysC172 (mk l) (by rw[hsz];omega) v (by rw[mk_data];exact ha) w
  have hA':Calls Tryz.prog 152 #[.string (mk l)] w fun e w'=>e=.returned (.tuple #[.int .i64 v,.nilIface])/\Below w.heap.size w w':=hA.mono (by
   rintro e w' ⟨rfl,h⟩;refine⟨rfl,?_⟩;rcases h with rfl | ⟨t,rfl⟩
   ·exact Below.refl _ _
   ·exact Lib.bytesWorld_below _ _ _)
  clear hA;have HN:=numA_ok ha;have HA:Hid (Calls Tryz.prog 152 #[.string (mk l)] w fun e w'=>e=.returned (.tuple #[.int .i64 v,.nilIface])/\Below w.heap.size w w'):=hA';clear hA' ha;by_cases he:Lib.itoa v=l
  ·have HE:Hid (numN l=v/\numB l=true):=by unfold numN numB;rw[HN,if_pos he];exact⟨rfl,rfl⟩
   have hq:((mk (Lib.itoa v)).toList==(mk l).toList)=true:=by rw[eq_mk,he];simp
   clear he HN;go_enter Tryz.func136,Tryz.ntmps136;go_wp2_with (first | (go_at_call 152;refine HA.out.mono ?_;rintro e w1 ⟨rfl,hb1⟩) | (go_at_call 153;refine(text_any _ _ hin (hT.later hb1)).mono ?_;rintro e w2 ⟨rfl,hb2⟩));go_ret2;rw[HE.out.1,HE.out.2];exact⟨rfl,hb1.trans (hb2.mono hb1.size)⟩
  ·have HE:Hid (numN l=0/\numB l=false):=by unfold numN numB;rw[HN,if_neg he];exact⟨rfl,rfl⟩
   have hq:((mk (Lib.itoa v)).toList==(mk l).toList)=false:=by rw[eq_mk];simpa using he
   clear he HN;go_enter Tryz.func136,Tryz.ntmps136;go_wp2_with (first | (go_at_call 152;refine HA.out.mono ?_;rintro e w1 ⟨rfl,hb1⟩) | (go_at_call 153;refine(text_any _ _ hin (hT.later hb1)).mono ?_;rintro e w2 ⟨rfl,hb2⟩));go_ret2;rw[HE.out.1,HE.out.2];exact⟨rfl,hb1.trans (hb2.mono hb1.size)⟩
 ·have HE:Hid (numN l=0/\numB l=false):=by unfold numN numB;rw[numA_no (fun v=>by rw[ha];exact fun h=>by cases h)];exact⟨rfl,rfl⟩
  obtain⟨te,pe,hv⟩:=hT.syn;have hA:=Any.strconv_Atoi_syntax laysC172 (mk l) (by rw[hsz];omega) (by rw[mk_data];exact ha) _ w hv (.inr ⟨te,pe,rfl⟩)
  have HA:Hid (Calls Tryz.prog 152 #[.string (mk l)] w fun e w'=>∃ N,e=.returned (.tuple #[.int .i64 0,.iface 227 (.pointer (some ⟨N,0,none⟩))])/\Below w.heap.size w w'):=hA.mono (by
   rintro e w' ⟨N,h1,_,_,h2⟩;exact⟨N,h1,h2⟩)
  clear hA ha;go_enter Tryz.func136,Tryz.ntmps136;go_wp2_with (first | (go_at_call 152;refine HA.out.mono ?_;rintro e w1 ⟨N,rfl,hb1⟩));go_ret2;rw[HE.out.1,HE.out.2];exact⟨rfl,hb1⟩
 ·have HE:Hid (numN l=0/\numB l=false):=by unfold numN numB;rw[numA_no (fun v=>by rw[ha];exact fun h=>by cases h)];exact⟨rfl,rfl⟩
  obtain⟨te,pe,hv⟩:=hT.rng;have hA:=Any.strconv_Atoi_range laysC172 (mk l) (by rw[hsz];omega) (by rw[mk_data];exact ha) _ w hv (.inr ⟨te,pe,rfl⟩);obtain⟨S,HS⟩:∃ S,Hid (Lib.atoiSat (mk l).data.toList=S):=⟨_,rfl⟩;rw[HS.out]at hA
  have HA:Hid (Calls Tryz.prog 152 #[.string (mk l)] w fun e w'=>∃ N,e=.returned (.tuple #[.int .i64 S,.iface 227 (.pointer (some ⟨N,0,none⟩))])/\Below w.heap.size w w'):=hA.mono (by
   rintro e w' ⟨N,h1,_,_,h2⟩;exact⟨N,h1,h2⟩)
  clear hA ha;go_enter Tryz.func136,Tryz.ntmps136;go_wp2_with (first | (go_at_call 152;refine HA.out.mono ?_;rintro e w1 ⟨N,rfl,hb1⟩));go_ret2;rw[HE.out.1,HE.out.2];exact⟨rfl,hb1⟩
def kind (l:List UInt8):Int :=
 if (l==[] || l==[126] || l==[110,117,108,108])=true then 1
 else if (l==[116,114,117,101] || l==[102,97,108,115,101])=true then 2
 else if numB l=true then 3 else 4
theorem eq_l (l d:List UInt8):((mk l).toList==d)=(l==d):=by rw[ByteArray.toList_eq,mk_data]
theorem resolve_any (l:List UInt8) (w:World) (hs:l.length<=140737488351232) (hT:Tabs w):Calls Tryz.prog 120 #[.string (mk l)] w fun e w'=>e=.returned (.int .i64 (kind l))/\Below w.heap.size w w':=by
 have q1:=eq_l l [];have q2:=eq_l l [126];have q3:=eq_l l [110,117,108,108];have q4:=eq_l l [116,114,117,101];have q5:=eq_l l [102,97,108,115,101];cases c1:(l==[])
 ·cases c2:(l==[126])
  ·cases c3:(l==[110,117,108,108])
   ·cases c4:(l==[116,114,117,101])
    ·cases c5:(l==[102,97,108,115,101])
     ·cases hn:numB l
      ·have HE:Hid (kind l=4):=by unfold kind;rw[c1,c2,c3,c4,c5,hn];rfl
       rw[c1]at q1;rw[c2]at q2;rw[c3]at q3;rw[c4]at q4;rw[c5]at q5;have HN:Hid (Calls Tryz.prog 136 #[.string (mk l)] w fun e w'=>e=.returned (.tuple #[.int .i64 (numN l),.bool false])/\Below w.heap.size w w'):=by rw[<-hn];exact number_any l w hs hT
       clear c1 c2 c3 c4 c5 hn;go_enter Tryz.func120,Tryz.ntmps120;go_wp2_with (first | (go_at_call 136;refine HN.out.mono ?_;rintro e w1 ⟨rfl,hb1⟩));go_ret;rw[HE.out];exact⟨rfl,hb1⟩
      ·have HE:Hid (kind l=3):=by unfold kind;rw[c1,c2,c3,c4,c5,hn];rfl
       rw[c1]at q1;rw[c2]at q2;rw[c3]at q3;rw[c4]at q4;rw[c5]at q5;have HN:Hid (Calls Tryz.prog 136 #[.string (mk l)] w fun e w'=>e=.returned (.tuple #[.int .i64 (numN l),.bool true])/\Below w.heap.size w w'):=by rw[<-hn];exact number_any l w hs hT
       clear c1 c2 c3 c4 c5 hn;go_enter Tryz.func120,Tryz.ntmps120;go_wp2_with (first | (go_at_call 136;refine HN.out.mono ?_;rintro e w1 ⟨rfl,hb1⟩));go_ret;rw[HE.out];exact⟨rfl,hb1⟩
     ·have HE:Hid (kind l=2):=by unfold kind;rw[c1,c2,c3,c4,c5];rfl
      rw[c1]at q1;rw[c2]at q2;rw[c3]at q3;rw[c4]at q4;rw[c5]at q5;clear c1 c2 c3 c4 c5;go_enter Tryz.func120,Tryz.ntmps120;go_wp2;go_ret;rw[HE.out];exact⟨rfl,Below.refl _ _⟩
    ·have HE:Hid (kind l=2):=by unfold kind;rw[c1,c2,c3,c4];rfl
     rw[c1]at q1;rw[c2]at q2;rw[c3]at q3;rw[c4]at q4;clear c1 c2 c3 c4 q5;go_enter Tryz.func120,Tryz.ntmps120;go_wp2;go_ret;rw[HE.out];exact⟨rfl,Below.refl _ _⟩
   ·have HE:Hid (kind l=1):=by unfold kind;rw[c1,c2,c3];rfl
    rw[c1]at q1;rw[c2]at q2;rw[c3]at q3;clear c1 c2 c3 q4 q5;go_enter Tryz.func120,Tryz.ntmps120;go_wp2;go_ret;rw[HE.out];exact⟨rfl,Below.refl _ _⟩
  ·have HE:Hid (kind l=1):=by unfold kind;rw[c1,c2];rfl
   rw[c1]at q1;rw[c2]at q2;clear c1 c2 q3 q4 q5;go_enter Tryz.func120,Tryz.ntmps120;go_wp2;go_ret;rw[HE.out];exact⟨rfl,Below.refl _ _⟩
 ·have HE:Hid (kind l=1):=by unfold kind;rw[c1];rfl
  rw[c1]at q1;clear c1 q2 q3 q4 q5;go_enter Tryz.func120,Tryz.ntmps120;go_wp2;go_ret;rw[HE.out];exact⟨rfl,Below.refl _ _⟩
end Pln
namespace Pln
open Utf Rws
open Go.RowKit
theorem field0 (a b:Int) (w:World):(Instr.field 32 (.agg #[.int .i64 a,.int .i64 b]) 0).run Tryz.prog w=.ok (.int .i64 a) w:=by kernel_rfl
theorem isPrintable_any (l:List UInt8) (w:World) (hs:l.length<=140737488351232):Calls Tryz.prog 141 #[.string (mk l)] w fun e w'=>e=.returned (.bool (pri l))/\Below w.heap.size w w':=by
 have hfd:=field0;have hs':(mk l).size<=maxLen:=by rw[mk_size];unfold maxLen;omega
 have HC:=check_any (mk l) w hs';rw[mk_data]at HC
 cases hc:chk l with
 | none =>
  have HP:Hid (pri l= !anyB l):=by unfold pri;rw[hc,anyB_has];rfl
  have HCC:Hid (Calls Tryz.prog 38 #[.string (mk l)] w fun e w'=>e=.returned (.agg #[.int .i64 0,.int .i64 0])/\Below w.heap.size w w'):=by rw[hc]at HC;exact HC
  clear HC hc;go_enter Tryz.func141,Tryz.ntmps141;go_wp2_with (first | (go_at_call 38;refine HCC.out.mono ?_;rintro e w1 ⟨rfl,hb1⟩) | (go_at_call 158;refine(containsAny_any _ _ hs).mono ?_;rintro e w2 ⟨rfl,hb2⟩));go_ret;rw[HP.out];exact⟨rfl,hb1.trans (hb2.mono hb1.size)⟩
 | some p =>
  have HP:Hid (pri l=false):=by unfold pri;rw[hc];rfl
  have HCC:Hid (Calls Tryz.prog 38 #[.string (mk l)] w fun e w'=>e=.returned (.agg #[.int .i64 8,.int .i64 p])/\Below w.heap.size w w'):=by rw[hc]at HC;exact HC
  clear HC hc;go_enter Tryz.func141,Tryz.ntmps141;go_wp2_with (first | (go_at_call 38;refine HCC.out.mono ?_;rintro e w1 ⟨rfl,hb1⟩));go_ret;rw[HP.out];exact⟨rfl,hb1⟩
theorem b32n (b:UInt8):((b.toNat:Int)!=32)= !is32 b:=by rw[bne,b32]
theorem beginsPlain_any (l:List UInt8) (w:World) (hs:l.length<=140737488351232):Calls Tryz.prog 142 #[.string (mk l)] w fun e w'=>e=.returned (.bool (bg l))/\w=w':=by
 have q1:=eq_l l [];have q2:=eq_l l [45];have q3:=eq_l l [45,45,45];cases c1:(l==[])
 ·have h0:l≠[]:=by simpa using c1
  have hl:0<l.length:=List.length_pos_iff.2 h0;cases c2:(l==[45])
  ·cases c3:(l==[45,45,45])
   ·have HB:Hid (bg l=(!(l.getD 0 0==32) && !(mrk (l.getD 0 0)) && !(l.take 2==[45,32]))):=by
     unfold bg;rw[c1,c2,c3];rfl
    rw[c1]at q1;rw[c2]at q2;rw[c3]at q3;have hsz:=mk_size l;have hg:∀ h,(mk l)[0]'h=l.getD 0 0:=fun h=>mk_getD l 0 h
    have hb:=b32n (l.getD 0 0);have HM:Hid (mrk (l.getD 0 0)=has (l.getD 0 0) (⟨#[63,58,44,91,93,123,125,35,38,42,33,124,62,39,34,37,64,96]⟩:ByteArray).data.toList):=rfl;rw[show (l.getD 0 0==32)=is32 (l.getD 0 0)from rfl]at HB;clear c1 c2 c3 h0;obtain⟨V,HV⟩:∃ V,Hid ((l.take 2==[45,32])=V):=⟨_,rfl⟩;have HH:Hid (Calls Tryz.prog 48 #[.string (mk l),.string ⟨#[45,32]⟩] w fun e w'=>e=.returned (.bool V)/\w=w'):=by rw[<-HV.out];exact hasPrefix_any l w
    rw[HV.out]at HB;clear HV;generalize l.getD 0 0=b at hg hb HM HB;cases e1:is32 b
    ·rw[e1]at hb HB;cases e2:mrk b
     ·rw[e2]at HM HB;have HO:Hid (Calls Tryz.prog 159 #[.int .u8 (b.toNat:Int),.string ⟨#[63,58,44,91,93,123,125,35,38,42,33,124,62,39,34,37,64,96]⟩] w fun e w'=>e=.returned (.bool false)/\w=w'):=by rw[HM.out];exact isOneOf_any _ b w
      clear HM;go_enter Tryz.func142,Tryz.ntmps142;go_wp2_with (first | (go_at_call 159;refine HO.out.mono ?_;rintro e w' ⟨rfl,rfl⟩) | (go_at_call 48;refine HH.out.mono ?_;rintro e w' ⟨rfl,rfl⟩));go_ret;rw[HB.out];exact⟨rfl,rfl⟩
     ·rw[e2]at HM HB;have HO:Hid (Calls Tryz.prog 159 #[.int .u8 (b.toNat:Int),.string ⟨#[63,58,44,91,93,123,125,35,38,42,33,124,62,39,34,37,64,96]⟩] w fun e w'=>e=.returned (.bool true)/\w=w'):=by rw[HM.out];exact isOneOf_any _ b w
      clear HM;go_enter Tryz.func142,Tryz.ntmps142;go_wp2_with (first | (go_at_call 159;refine HO.out.mono ?_;rintro e w' ⟨rfl,rfl⟩) | (go_at_call 48;refine HH.out.mono ?_;rintro e w' ⟨rfl,rfl⟩));go_ret;rw[HB.out];exact⟨rfl,rfl⟩
    ·rw[e1]at hb HB;go_enter Tryz.func142,Tryz.ntmps142;go_wp2;go_ret;rw[HB.out];exact⟨rfl,rfl⟩
   ·have HB:Hid (bg l=false):=by unfold bg;rw[c1,c2,c3];rfl
    rw[c1]at q1;rw[c2]at q2;rw[c3]at q3;clear c1 c2 c3;go_enter Tryz.func142,Tryz.ntmps142;go_wp2;go_ret;rw[HB.out];exact⟨rfl,rfl⟩
  ·have HB:Hid (bg l=false):=by unfold bg;rw[c1,c2];rfl
   rw[c1]at q1;rw[c2]at q2;clear c1 c2 q3;go_enter Tryz.func142,Tryz.ntmps142;go_wp2;go_ret;rw[HB.out];exact⟨rfl,rfl⟩
 ·have HB:Hid (bg l=false):=by unfold bg;rw[c1];rfl
  rw[c1]at q1;clear c1 q2 q3;go_enter Tryz.func142,Tryz.ntmps142;go_wp2;go_ret;rw[HB.out];exact⟨rfl,rfl⟩
theorem bg_ne {l:List UInt8} (h:bg l=true):0<l.length:=by
 cases l with
 | nil=>unfold bg at h;simp at h
 | cons b r=>simp
theorem is_any (l:List UInt8) (f:Bool) (w:World) (hs:l.length<=140737488351232):Calls Tryz.prog 128 #[.string (mk l),.bool f] w fun e w'=>e=.returned (.bool (isP l f))/\Below w.heap.size w w':=by
 have HP:isP l f=(pri l && bg l && !(is32 (l.getD (l.length-1) 0)) && (fin l f==l.length)):=rfl;have P1:=isPrintable_any l w hs;cases e1:pri l
 ·have HE:Hid (isP l f=false):=by rw[HP,e1];rfl
  rw[e1]at P1;have HP1:Hid (Calls Tryz.prog 141 #[.string (mk l)] w fun e w'=>e=.returned (.bool false)/\Below w.heap.size w w'):=P1;clear P1 HP e1;go_enter Tryz.func128,Tryz.ntmps128;go_wp2_with (first | (go_at_call 141;refine HP1.out.mono ?_;rintro e w1 ⟨rfl,hb1⟩));go_ret;rw[HE.out];exact⟨rfl,hb1⟩
 ·rw[e1]at P1 HP;have HP1:Hid (Calls Tryz.prog 141 #[.string (mk l)] w fun e w'=>e=.returned (.bool true)/\Below w.heap.size w w'):=P1;clear P1 e1;cases e2:bg l
  ·have HE:Hid (isP l f=false):=by rw[HP,e2];rfl
   have HB:Hid (∀ w,Calls Tryz.prog 142 #[.string (mk l)] w fun e w'=>e=.returned (.bool false)/\w=w'):=fun w=>by rw[<-e2];exact beginsPlain_any l w hs
   clear HP e2;go_enter Tryz.func128,Tryz.ntmps128;go_wp2_with (first | (go_at_call 141;refine HP1.out.mono ?_;rintro e w1 ⟨rfl,hb1⟩) | (go_at_call 142;refine(HB.out _).mono ?_;rintro e w' ⟨rfl,rfl⟩));go_ret;rw[HE.out];exact⟨rfl,hb1⟩
  ·have hl:=bg_ne e2;have HB:Hid (∀ w,Calls Tryz.prog 142 #[.string (mk l)] w fun e w'=>e=.returned (.bool true)/\w=w'):=fun w=>by rw[<-e2];exact beginsPlain_any l w hs
   rw[e2]at HP;clear e2;obtain⟨m,hm⟩:∃ m,l.length=m+1:=⟨l.length-1,by omega⟩;have hsz:(mk l).size=m+1:=by rw[mk_size];exact hm
   have hg:∀ h,(mk l)[m]'h=l.getD m 0:=fun h=>mk_getD l m h
   have hb:=b32n (l.getD m 0);rw[show l.length-1=m by omega]at HP;have hmb:m+1<=140737488351232:=by omega
   have hsl:l.length<=562949953421312:=by omega
   cases e3:is32 (l.getD m 0)
   ·rw[e3]at hb HP;generalize l.getD m 0=b at hg hb
    have HQ:Hid (isP l f=((fin l f:Int)==((m:Int)+1))):=by
     have e:(fin l f==m+1)=((fin l f:Int)==((m:Int)+1)):=by rw[Bool.eq_iff_iff,beq_iff_eq,beq_iff_eq];omega
     rw[HP,hm,e];rfl
    clear HP;have HL:Hid (l.length=m+1):=hm;clear hm hl;go_enter Tryz.func128,Tryz.ntmps128;go_wp2_with (first | (go_at_call 141;refine HP1.out.mono ?_;rintro e w1 ⟨rfl,hb1⟩) | (go_at_call 142;refine(HB.out _).mono ?_;rintro e w' ⟨rfl,rfl⟩) | (go_at_call 140;refine(end_any _ _ _ hsl).mono ?_;rintro e w2 ⟨rfl,hb2⟩));go_ret;rw[HQ.out];exact⟨rfl,hb1.trans (hb2.mono hb1.size)⟩
   ·have HE:Hid (isP l f=false):=by rw[HP,e3];rfl
    rw[e3]at hb;clear HP e3;generalize l.getD m 0=b at hg hb;have HL:Hid (l.length=m+1):=hm;clear hm hl;go_enter Tryz.func128,Tryz.ntmps128;go_wp2_with (first | (go_at_call 141;refine HP1.out.mono ?_;rintro e w1 ⟨rfl,hb1⟩) | (go_at_call 142;refine(HB.out _).mono ?_;rintro e w' ⟨rfl,rfl⟩));go_ret;rw[HE.out];exact⟨rfl,hb1⟩
end Pln
end Go.Proofs.YtalijhclfppohaaGreatDoor
