/- Several texts as one: PlainShelf, PlainAny, PlainAny2, PlainAny3. -/
import Derived.Shelf.Small.Utf8
import Derived.Shelf.Strconv.Itoa3
import Derived.Shelf.Strconv.AtoiAll
import Derived.Shelf.Strings.AsciiSet
import Derived.Test.YtaphijgbebhdlaaGreatDoorProg
import Derived.Test.YtaphijgbebhdlaaGreatDoorV02UtfLeaf
import Derived.Lib.AsciiSet
import Derived.Deep.WholeRow
import Derived.Laws.RangeAny
import Derived.WalkMore
import Derived.BigQuiet
import Derived.BigRegion
import Derived.Deep.QuietTactic
import Derived.Deep.LoopGhost
section
/- The library functions that plain reaches, laid at this program. -/
namespace Go.Proofs.YtaphijgbebhdlaaGreatDoor.Pln
open Go.Shelf
def lays119_ren : Go.Shelf.Ren := ⟨fun | 119 => 151 | n => n, fun | 21 => 21 | 4 => 4 | n => n, fun | n => n⟩
theorem lays119 : Go.Proofs.Lays.n119 Tryz.prog lays119_ren := {
  mixed := by kernel_rfl
  f119 := Tryz.func151.trans (congrArg some (by kernel_rfl))
  t4 := Tryz.underlying4
  a4 := Tryz.isAgg4
  z4 := Tryz.sizeOf4
  v4 := Tryz.zeroValue4
  t21 := Tryz.underlying21
  a21 := Tryz.isAgg21
  z21 := Tryz.sizeOf21
  v21 := Tryz.zeroValue21 }
def laysM171_ren : Go.Shelf.Ren := ⟨fun | 171 => 45 | 243 => 68 | 246 => 89 | 283 => 106 | 284 => 107 | 285 => 108 | 286 => 109 | 129 => 127 | 317 => 126 | 318 => 128 | 319 => 129 | 320 => 130 | 337 => 149 | 338 => 150 | n => n, fun | 3 => 3 | 9 => 9 | 2 => 2 | 4 => 4 | 171 => 162 | 0 => 0 | 53 => 163 | 37 => 65 | 5 => 5 | 173 => 166 | 212 => 179 | 51 => 180 | 20 => 20 | 213 => 181 | 46 => 172 | 232 => 210 | 233 => 211 | n => n, fun | 17 => 2 | 18 => 5 | 19 => 6 | n => n⟩
theorem laysM171 : Go.Proofs.LaysM.n171 Tryz.prog laysM171_ren := {
  mixed := by kernel_rfl
  f129 := Tryz.func127.trans (congrArg some (by kernel_rfl))
  f171 := Tryz.func45.trans (congrArg some (by kernel_rfl))
  f243 := Tryz.func68.trans (congrArg some (by kernel_rfl))
  f246 := Tryz.func89.trans (congrArg some (by kernel_rfl))
  f283 := Tryz.func106.trans (congrArg some (by kernel_rfl))
  f284 := Tryz.func107.trans (congrArg some (by kernel_rfl))
  f285 := Tryz.func108.trans (congrArg some (by kernel_rfl))
  f286 := Tryz.func109.trans (congrArg some (by kernel_rfl))
  f317 := Tryz.func126.trans (congrArg some (by kernel_rfl))
  f318 := Tryz.func128.trans (congrArg some (by kernel_rfl))
  f319 := Tryz.func129.trans (congrArg some (by kernel_rfl))
  f320 := Tryz.func130.trans (congrArg some (by kernel_rfl))
  f337 := Tryz.func149.trans (congrArg some (by kernel_rfl))
  f338 := Tryz.func150.trans (congrArg some (by kernel_rfl))
  t0 := Tryz.underlying0
  a0 := Tryz.isAgg0
  z0 := Tryz.sizeOf0
  v0 := Tryz.zeroValue0
  t2 := Tryz.underlying2
  a2 := Tryz.isAgg2
  z2 := Tryz.sizeOf2
  v2 := Tryz.zeroValue2
  t3 := Tryz.underlying3
  a3 := Tryz.isAgg3
  z3 := Tryz.sizeOf3
  v3 := Tryz.zeroValue3
  t4 := Tryz.underlying4
  a4 := Tryz.isAgg4
  z4 := Tryz.sizeOf4
  v4 := Tryz.zeroValue4
  t5 := Tryz.underlying5
  a5 := Tryz.isAgg5
  z5 := Tryz.sizeOf5
  v5 := Tryz.zeroValue5
  t9 := Tryz.underlying9
  a9 := Tryz.isAgg9
  z9 := Tryz.sizeOf9
  v9 := Tryz.zeroValue9
  t20 := Tryz.underlying20
  a20 := Tryz.isAgg20
  z20 := Tryz.sizeOf20
  v20 := Tryz.zeroValue20
  t37 := Tryz.underlying65
  a37 := Tryz.isAgg65
  z37 := Tryz.sizeOf65
  v37 := Tryz.zeroValue65
  t46 := Tryz.underlying172
  a46 := Tryz.isAgg172
  z46 := Tryz.sizeOf172
  v46 := Tryz.zeroValue172
  t51 := Tryz.underlying180
  a51 := Tryz.isAgg180
  z51 := Tryz.sizeOf180
  v51 := Tryz.zeroValue180
  t53 := Tryz.underlying163
  a53 := Tryz.isAgg163
  z53 := Tryz.sizeOf163
  v53 := Tryz.zeroValue163
  t171 := Tryz.underlying162
  a171 := Tryz.isAgg162
  z171 := Tryz.sizeOf162
  v171 := Tryz.zeroValue162
  t173 := Tryz.underlying166
  a173 := Tryz.isAgg166
  z173 := Tryz.sizeOf166
  v173 := Tryz.zeroValue166
  t212 := Tryz.underlying179
  a212 := Tryz.isAgg179
  z212 := Tryz.sizeOf179
  v212 := Tryz.zeroValue179
  t213 := Tryz.underlying181
  a213 := Tryz.isAgg181
  z213 := Tryz.sizeOf181
  t232 := Tryz.underlying210
  a232 := Tryz.isAgg210
  z232 := Tryz.sizeOf210
  v232 := Tryz.zeroValue210
  t233 := Tryz.underlying211
  a233 := Tryz.isAgg211
  z233 := Tryz.sizeOf211
  v233 := Tryz.zeroValue211
  g17 := by kernel_rfl
  g18 := by kernel_rfl
  g19 := by kernel_rfl
  i0 := by kernel_rfl
  i2 := by kernel_rfl
  i3 := by kernel_rfl
  i4 := by kernel_rfl
  i5 := by kernel_rfl
  i9 := by kernel_rfl
  i20 := by kernel_rfl
  i37 := by kernel_rfl
  i46 := by kernel_rfl
  i51 := by kernel_rfl
  i53 := by kernel_rfl
  i171 := by kernel_rfl
  i173 := by kernel_rfl
  i212 := by kernel_rfl
  i232 := by kernel_rfl
  i233 := by kernel_rfl
  m17 := by kernel_rfl
  m18 := by kernel_rfl
  m19 := by kernel_rfl }
def laysC172_ren : Go.Shelf.Ren := ⟨fun | 172 => 100 | 244 => 119 | 245 => 120 | 247 => 142 | 279 => 143 | 280 => 144 | 281 => 145 | 282 => 146 | 287 => 155 | 316 => 156 | 171 => 45 | 205 => 157 | 321 => 159 | 322 => 160 | 243 => 68 | 246 => 89 | 283 => 106 | 284 => 107 | 285 => 108 | 286 => 109 | 129 => 127 | 317 => 126 | 318 => 128 | 319 => 129 | 320 => 130 | 337 => 149 | 338 => 150 | n => n, fun | 9 => 9 | 3 => 3 | 75 => 102 | 76 => 103 | 4 => 4 | 5 => 5 | 167 => 192 | 37 => 65 | 0 => 0 | 85 => 193 | 2 => 2 | 168 => 195 | 53 => 163 | 175 => 203 | 46 => 172 | 210 => 207 | 127 => 106 | 145 => 215 | 143 => 213 | 21 => 21 | 171 => 162 | 173 => 166 | 212 => 179 | 51 => 180 | 20 => 20 | 213 => 181 | 232 => 210 | 233 => 211 | 80 => 69 | n => n, fun | 15 => 3 | 16 => 4 | 17 => 2 | 18 => 5 | 19 => 6 | n => n⟩
theorem laysC172 : Go.Proofs.LaysC.n172 Tryz.prog laysC172_ren := {
  mixed := by kernel_rfl
  f129 := Tryz.func127.trans (congrArg some (by kernel_rfl))
  f171 := Tryz.func45.trans (congrArg some (by kernel_rfl))
  f172 := Tryz.func100.trans (congrArg some (by kernel_rfl))
  f205 := Tryz.func157.trans (congrArg some (by kernel_rfl))
  f243 := Tryz.func68.trans (congrArg some (by kernel_rfl))
  f244 := Tryz.func119.trans (congrArg some (by kernel_rfl))
  f245 := Tryz.func120.trans (congrArg some (by kernel_rfl))
  f246 := Tryz.func89.trans (congrArg some (by kernel_rfl))
  f247 := Tryz.func142.trans (congrArg some (by kernel_rfl))
  f279 := Tryz.func143.trans (congrArg some (by kernel_rfl))
  f280 := Tryz.func144.trans (congrArg some (by kernel_rfl))
  f281 := Tryz.func145.trans (congrArg some (by kernel_rfl))
  f282 := Tryz.func146.trans (congrArg some (by kernel_rfl))
  f283 := Tryz.func106.trans (congrArg some (by kernel_rfl))
  f284 := Tryz.func107.trans (congrArg some (by kernel_rfl))
  f285 := Tryz.func108.trans (congrArg some (by kernel_rfl))
  f286 := Tryz.func109.trans (congrArg some (by kernel_rfl))
  f287 := Tryz.func155.trans (congrArg some (by kernel_rfl))
  f316 := Tryz.func156.trans (congrArg some (by kernel_rfl))
  f317 := Tryz.func126.trans (congrArg some (by kernel_rfl))
  f318 := Tryz.func128.trans (congrArg some (by kernel_rfl))
  f319 := Tryz.func129.trans (congrArg some (by kernel_rfl))
  f320 := Tryz.func130.trans (congrArg some (by kernel_rfl))
  f321 := Tryz.func159.trans (congrArg some (by kernel_rfl))
  f322 := Tryz.func160.trans (congrArg some (by kernel_rfl))
  f337 := Tryz.func149.trans (congrArg some (by kernel_rfl))
  f338 := Tryz.func150.trans (congrArg some (by kernel_rfl))
  t0 := Tryz.underlying0
  a0 := Tryz.isAgg0
  z0 := Tryz.sizeOf0
  v0 := Tryz.zeroValue0
  t2 := Tryz.underlying2
  a2 := Tryz.isAgg2
  z2 := Tryz.sizeOf2
  v2 := Tryz.zeroValue2
  t3 := Tryz.underlying3
  a3 := Tryz.isAgg3
  z3 := Tryz.sizeOf3
  v3 := Tryz.zeroValue3
  t4 := Tryz.underlying4
  a4 := Tryz.isAgg4
  z4 := Tryz.sizeOf4
  v4 := Tryz.zeroValue4
  t5 := Tryz.underlying5
  a5 := Tryz.isAgg5
  z5 := Tryz.sizeOf5
  v5 := Tryz.zeroValue5
  t9 := Tryz.underlying9
  a9 := Tryz.isAgg9
  z9 := Tryz.sizeOf9
  v9 := Tryz.zeroValue9
  t20 := Tryz.underlying20
  a20 := Tryz.isAgg20
  z20 := Tryz.sizeOf20
  v20 := Tryz.zeroValue20
  t21 := Tryz.underlying21
  a21 := Tryz.isAgg21
  z21 := Tryz.sizeOf21
  v21 := Tryz.zeroValue21
  t37 := Tryz.underlying65
  a37 := Tryz.isAgg65
  z37 := Tryz.sizeOf65
  v37 := Tryz.zeroValue65
  t46 := Tryz.underlying172
  a46 := Tryz.isAgg172
  z46 := Tryz.sizeOf172
  v46 := Tryz.zeroValue172
  t51 := Tryz.underlying180
  a51 := Tryz.isAgg180
  z51 := Tryz.sizeOf180
  v51 := Tryz.zeroValue180
  t53 := Tryz.underlying163
  a53 := Tryz.isAgg163
  z53 := Tryz.sizeOf163
  v53 := Tryz.zeroValue163
  t75 := Tryz.underlying102
  a75 := Tryz.isAgg102
  z75 := Tryz.sizeOf102
  v75 := Tryz.zeroValue102
  t76 := Tryz.underlying103
  a76 := Tryz.isAgg103
  z76 := Tryz.sizeOf103
  v76 := Tryz.zeroValue103
  t85 := Tryz.underlying193
  a85 := Tryz.isAgg193
  z85 := Tryz.sizeOf193
  v85 := Tryz.zeroValue193
  t127 := Tryz.underlying106
  a127 := Tryz.isAgg106
  z127 := Tryz.sizeOf106
  v127 := Tryz.zeroValue106
  t143 := Tryz.underlying213
  a143 := Tryz.isAgg213
  z143 := Tryz.sizeOf213
  v143 := Tryz.zeroValue213
  t145 := Tryz.underlying215
  a145 := Tryz.isAgg215
  z145 := Tryz.sizeOf215
  v145 := Tryz.zeroValue215
  t167 := Tryz.underlying192
  a167 := Tryz.isAgg192
  z167 := Tryz.sizeOf192
  v167 := Tryz.zeroValue192
  t168 := Tryz.underlying195
  a168 := Tryz.isAgg195
  z168 := Tryz.sizeOf195
  v168 := Tryz.zeroValue195
  t171 := Tryz.underlying162
  a171 := Tryz.isAgg162
  z171 := Tryz.sizeOf162
  v171 := Tryz.zeroValue162
  t173 := Tryz.underlying166
  a173 := Tryz.isAgg166
  z173 := Tryz.sizeOf166
  v173 := Tryz.zeroValue166
  t175 := Tryz.underlying203
  a175 := Tryz.isAgg203
  z175 := Tryz.sizeOf203
  v175 := Tryz.zeroValue203
  t210 := Tryz.underlying207
  a210 := Tryz.isAgg207
  z210 := Tryz.sizeOf207
  v210 := Tryz.zeroValue207
  t212 := Tryz.underlying179
  a212 := Tryz.isAgg179
  z212 := Tryz.sizeOf179
  v212 := Tryz.zeroValue179
  t213 := Tryz.underlying181
  a213 := Tryz.isAgg181
  z213 := Tryz.sizeOf181
  t232 := Tryz.underlying210
  a232 := Tryz.isAgg210
  z232 := Tryz.sizeOf210
  v232 := Tryz.zeroValue210
  t233 := Tryz.underlying211
  a233 := Tryz.isAgg211
  z233 := Tryz.sizeOf211
  v233 := Tryz.zeroValue211
  g15 := by kernel_rfl
  g16 := by kernel_rfl
  g17 := by kernel_rfl
  g18 := by kernel_rfl
  g19 := by kernel_rfl
  t80 := Tryz.underlying69
  a80 := Tryz.isAgg69
  z80 := Tryz.sizeOf69
  v80 := Tryz.zeroValue69
  i0 := by kernel_rfl
  i2 := by kernel_rfl
  i3 := by kernel_rfl
  i4 := by kernel_rfl
  i5 := by kernel_rfl
  i9 := by kernel_rfl
  i20 := by kernel_rfl
  i21 := by kernel_rfl
  i37 := by kernel_rfl
  i46 := by kernel_rfl
  i51 := by kernel_rfl
  i53 := by kernel_rfl
  i75 := by kernel_rfl
  i76 := by kernel_rfl
  i80 := by kernel_rfl
  i85 := by kernel_rfl
  i127 := by kernel_rfl
  i143 := by kernel_rfl
  i145 := by kernel_rfl
  i167 := by kernel_rfl
  i168 := by kernel_rfl
  i171 := by kernel_rfl
  i173 := by kernel_rfl
  i175 := by kernel_rfl
  i210 := by kernel_rfl
  i212 := by kernel_rfl
  i232 := by kernel_rfl
  i233 := by kernel_rfl
  m15 := by kernel_rfl
  m16 := by kernel_rfl
  m17 := by kernel_rfl
  m18 := by kernel_rfl
  m19 := by kernel_rfl
  c0 := by kernel_rfl
  c2 := by kernel_rfl
  c3 := by kernel_rfl
  c4 := by kernel_rfl
  c5 := by kernel_rfl
  c9 := by kernel_rfl
  c20 := by kernel_rfl
  c21 := by kernel_rfl
  c37 := by kernel_rfl
  c46 := by kernel_rfl
  c51 := by kernel_rfl
  c53 := by kernel_rfl
  c75 := by kernel_rfl
  c76 := by kernel_rfl
  c80 := by kernel_rfl
  c85 := by kernel_rfl
  c127 := by kernel_rfl
  c143 := by kernel_rfl
  c145 := by kernel_rfl
  c167 := by kernel_rfl
  c168 := by kernel_rfl
  c171 := by kernel_rfl
  c173 := by kernel_rfl
  c175 := by kernel_rfl
  c210 := by kernel_rfl
  c212 := by kernel_rfl
  c213 := by kernel_rfl
  c232 := by kernel_rfl
  c233 := by kernel_rfl }
def lays227_ren : Go.Shelf.Ren := ⟨fun | 227 => 139 | n => n, fun | 9 => 9 | 116 => 189 | 4 => 4 | 0 => 0 | 3 => 3 | 5 => 5 | n => n, fun | n => n⟩
theorem lays227 : Go.Proofs.Lays.n227 Tryz.prog lays227_ren := {
  mixed := by kernel_rfl
  f227 := Tryz.func139.trans (congrArg some (by kernel_rfl))
  t0 := Tryz.underlying0
  a0 := Tryz.isAgg0
  z0 := Tryz.sizeOf0
  v0 := Tryz.zeroValue0
  t3 := Tryz.underlying3
  a3 := Tryz.isAgg3
  z3 := Tryz.sizeOf3
  v3 := Tryz.zeroValue3
  t4 := Tryz.underlying4
  a4 := Tryz.isAgg4
  z4 := Tryz.sizeOf4
  v4 := Tryz.zeroValue4
  t5 := Tryz.underlying5
  a5 := Tryz.isAgg5
  z5 := Tryz.sizeOf5
  v5 := Tryz.zeroValue5
  t9 := Tryz.underlying9
  a9 := Tryz.isAgg9
  z9 := Tryz.sizeOf9
  v9 := Tryz.zeroValue9
  t116 := Tryz.underlying189
  a116 := Tryz.isAgg189
  z116 := Tryz.sizeOf189 }
def lays228_ren : Go.Shelf.Ren := ⟨fun | 228 => 140 | n => n, fun | 124 => 202 | 5 => 5 | 4 => 4 | 0 => 0 | 116 => 189 | n => n, fun | n => n⟩
theorem lays228 : Go.Proofs.Lays.n228 Tryz.prog lays228_ren := {
  mixed := by kernel_rfl
  f228 := Tryz.func140.trans (congrArg some (by kernel_rfl))
  t0 := Tryz.underlying0
  a0 := Tryz.isAgg0
  z0 := Tryz.sizeOf0
  v0 := Tryz.zeroValue0
  t4 := Tryz.underlying4
  a4 := Tryz.isAgg4
  z4 := Tryz.sizeOf4
  v4 := Tryz.zeroValue4
  t5 := Tryz.underlying5
  a5 := Tryz.isAgg5
  z5 := Tryz.sizeOf5
  v5 := Tryz.zeroValue5
  t116 := Tryz.underlying189
  a116 := Tryz.isAgg189
  z116 := Tryz.sizeOf189
  t124 := Tryz.underlying202
  a124 := Tryz.isAgg202
  z124 := Tryz.sizeOf202
  v124 := Tryz.zeroValue202 }
end Go.Proofs.YtaphijgbebhdlaaGreatDoor.Pln
end

section
/- strings.IndexAny at the three bytes that no plain text has: the long road. -/
namespace Go.Proofs.YtaphijgbebhdlaaGreatDoor.Pln
open Utf Rws
open Go.RowKit
set_option linter.unusedSimpArgs false
set_option linter.unusedVariables false
set_option maxRecDepth 100000

def c3 (b : UInt8) : Bool := b == 9 || b == 10 || b == 13
def anyB (l : List UInt8) : Bool := l.any c3
theorem anyB_has (l : List UInt8) : anyB l = (has 9 l || has 10 l || has 13 l) := by
  unfold anyB has
  induction l with
  | nil => rfl
  | cons b r ih =>
    simp only [List.any_cons, ih, c3]
    cases (b == 9) <;> cases (b == 10) <;> cases (b == 13) <;> simp
theorem any_take_snoc (l : List UInt8) (n : Nat) (h : n < l.length) : (l.take (n + 1)).any c3 = ((l.take n).any c3 || c3 (l.getD n 0)) := by
  rw [List.take_succ_eq_append_getElem h, List.any_append, List.getD_eq_getElem?_getD, List.getElem?_eq_getElem h]; simp
theorem any_hit (l : List UInt8) (n : Nat) (h : n < l.length) (hc : c3 (l.getD n 0) = true) : anyB l = true := by
  unfold anyB
  rw [List.any_eq_true]
  rw [List.getD_eq_getElem?_getD, List.getElem?_eq_getElem h] at hc
  exact ⟨l[n], List.getElem_mem h, hc⟩
/-- what IndexAny answers -/
def IxRes (l : List UInt8) (e : Ending) : Prop := ∃ r : Int, e = .returned (.int .i64 r) ∧ decide (0 ≤ r) = anyB l

theorem zero_set : (Tryz.prog.info? 189).map (fun i => (i.zero, i.size)) = some (some (.agg (Array.replicate 256 (.bool false))), 256) := by kernel_rfl
theorem set_has (x : UInt8) : ([9, 10, 13] : List UInt8).contains x = c3 x := by
  unfold c3
  show ((x == 9) || ((x == 10) || ((x == 13) || false))) = _
  rw [Bool.or_false, Bool.or_assoc]

theorem shouldUse_any (n : Int) (w : World) : Calls Tryz.prog 138 #[.int .i64 n] w fun e w' => e = .returned (.bool (decide (8 < n))) ∧ w = w' := by
  go_enter Tryz.func138, Tryz.ntmps138
  go_wp2
  go_ret
  exact ⟨rfl, rfl⟩

theorem indexAny_long (l : List UInt8) (w : World) (hs : l.length ≤ 140737488351232) (h8 : 8 < l.length) : Calls Tryz.prog 114 #[.string (mk l), .string ⟨#[9, 10, 13]⟩] w fun e w' => IxRes l e ∧ Below w.heap.size w w' := by
  have hsz := mk_size l
  have hM := Any.strings_makeASCIISet lays227 (zero_of_info zero_set).1 (zero_of_info zero_set).2 ⟨#[9, 10, 13]⟩ w (by decide) (by
    intro j b hb
    match j, hb with
    | 0, hb => simp at hb; subst hb; decide
    | 1, hb => simp at hb; subst hb; decide
    | 2, hb => simp at hb; subst hb; decide
    | j + 3, hb => simp at hb)
  obtain ⟨C, HC⟩ : ∃ C, Hid (Lib.setCells (⟨#[9, 10, 13]⟩ : ByteArray).data.toList = C) := ⟨_, rfl⟩
  rw [HC.out] at hM
  have hC1 : C.size = 256 := by rw [← HC.out]; exact Lib.setCells_size _
  have hC2 : C.all (·.oneCell') = true := by rw [← HC.out]; exact Lib.setCells_one _
  have hC3 : ∀ x : UInt8, C[x.toNat]? = some (.bool (c3 x)) := fun x => by
    rw [← HC.out, Lib.setCells_at]; congr 2; exact set_has x
  clear HC
  have HM : Hid (Calls Tryz.prog 139 #[.string ⟨#[9, 10, 13]⟩] w fun e w' => e = .returned (.tuple #[.agg C, .bool true]) ∧ w' = w.alloc (.cells C 189)) := hM
  clear hM
  have hsc : (storeCells ⟨w.heap.size + 1, 0, none⟩ C.toList 0).run Tryz.prog ((w.alloc (.cells C 189)).alloc (.cells Tryz.zeroCells189 189)) = .ok () ((w.alloc (.cells C 189)).alloc (.cells C 189)) := by
    have := run_storeCells_new (P := Tryz.prog) (w.alloc (.cells C 189)) 189 Tryz.zeroCells189 C (by rw [hC1]; exact (zero_of_info zero_set).2) (by rw [hC1]; kernel_rfl) hC2
    simpa using this
  have HS : Hid ((storeCells ⟨w.heap.size + 1, 0, none⟩ C.toList 0).run Tryz.prog ((w.alloc (.cells C 189)).alloc (.cells Tryz.zeroCells189 189)) = .ok () ((w.alloc (.cells C 189)).alloc (.cells C 189))) := hsc
  clear hsc
  have H3 : Hid (∀ x : UInt8, C[x.toNat]? = some (.bool (c3 x))) := hC3
  have H1 : Hid (C.size = 256) := hC1
  clear hC3 hC2 hC1
  have h8z : decide ((8 : Int) < (l.length : Int)) = true := decide_eq_true (by omega)
  go_enter Tryz.func114, Tryz.ntmps114
  go_wp2_with (first | (go_at_call 138; refine (shouldUse_any _ _).mono ?_; rintro e w' ⟨rfl, rfl⟩; rw [h8z]) | (go_at_call 139; refine HM.out.mono ?_; rintro e w' ⟨rfl, rfl⟩))
  rw [HS.out]
  simp only [Result.andThen]
  rw [Oper.upon_skip]
  go_wp2
  go_loop [8] (fun i => ∃ n : Nat, n ≤ l.length ∧ i = .int .i64 n ∧ (l.take n).any c3 = false) (fun i => l.length - (intOf i).toNat)
  case atStart => exact ⟨0, Nat.zero_le _, rfl, rfl⟩
  case round =>
    obtain ⟨n, hn1, rfl, ht⟩ := hrel
    have HT : Hid ((l.take n).any c3 = false) := ht
    clear ht
    by_cases hlt : n < l.length
    · have hg : ∀ h, (mk l)[n]'h = l.getD n 0 := fun h => mk_getD l n h
      have hlt' : n < (mk l).size := by rw [mk_size]; exact hlt
      have hsn := any_take_snoc l n hlt
      rw [HT.out, Bool.false_or] at hsn
      have HSN : Hid ((l.take (n + 1)).any c3 = c3 (l.getD n 0)) := hsn
      have hhit := any_hit l n hlt
      have HH : Hid (c3 (l.getD n 0) = true → anyB l = true) := hhit
      clear hsn hhit
      have hcell : ((w.alloc (.cells C 189)).alloc (.cells C 189)).cell? ⟨w.heap.size + 1, (l.getD n 0).toNat, none⟩ = some (.bool (c3 (l.getD n 0))) := by
        rw [World.cell?_alloc_at _ _ _ _ (by simp), H3.out]
      have hcon := Any.asciiSet_contains lays228 (w.heap.size + 1) (l.getD n 0) (c3 (l.getD n 0)) _ hcell
      have HC : Hid (Calls Tryz.prog 140 #[.pointer (some ⟨w.heap.size + 1, 0, none⟩), .int .u8 ((l.getD n 0).toNat : Int)] ((w.alloc (.cells C 189)).alloc (.cells C 189)) fun e w' => e = .returned (.bool (c3 (l.getD n 0))) ∧ w' = ((w.alloc (.cells C 189)).alloc (.cells C 189))) := hcon
      clear hcon hcell
      generalize l.getD n 0 = b at hg HSN HH HC
      cases hb : c3 b
      · rw [hb] at HC HSN
        go_wp2_with (first | (go_at_call 140; refine HC.out.mono ?_; rintro e w' ⟨rfl, rfl⟩))
        go_round
        case rel => exact ⟨n + 1, by omega, by go_num, HSN.out⟩
        case measure => simp [intOf]; omega
      · rw [hb] at HC
        go_wp2_with (first | (go_at_call 140; refine HC.out.mono ?_; rintro e w' ⟨rfl, rfl⟩))
        go_ret
        refine ⟨⟨(n : Int), rfl, ?_⟩, ((Below.refl _ _).alloc (Nat.le_refl _) _).alloc (by simp) _⟩
        rw [HH.out hb]; simp
    · have HN : Hid (anyB l = false) := by
        have := HT.out
        rw [List.take_of_length_le (by omega)] at this
        exact this
      go_wp2
      go_ret
      refine ⟨⟨-1, rfl, ?_⟩, ((Below.refl _ _).alloc (Nat.le_refl _) _).alloc (by simp) _⟩
      rw [HN.out]; rfl

end Go.Proofs.YtaphijgbebhdlaaGreatDoor.Pln
end

section
/- strings.IndexRune at the three bytes, and strings.IndexAny's short road. -/
namespace Go.Proofs.YtaphijgbebhdlaaGreatDoor.Pln
open Utf Rws
open Go.RowKit
set_option linter.unusedSimpArgs false
set_option linter.unusedVariables false
set_option maxRecDepth 100000

/-- a sign's bytes above 127: the last one -/
theorem enc_last (r : Int) (h : 128 ≤ r) (h2 : r ≤ 1114111) : ∃ (q : List UInt8) (c : UInt8), Utf8.encode r = mk (q ++ [c]) ∧ (q.length = 1 ∨ q.length = 2 ∨ q.length = 3) ∧ 128 ≤ c.toNat := by
  have e0 : Utf8.encode r = Utf8.encode r := rfl
  have hl : ∀ n : Nat, 128 ≤ (UInt8.ofNat (128 + n % 64)).toNat := fun n => by rw [UInt8.toNat_ofNat']; omega
  unfold Utf8.encode
  have hc : 128 ≤ (if Utf8.valid r = true then r.toNat else Utf8.runeError) := by
    split
    · omega
    · decide
  generalize (if Utf8.valid r = true then r.toNat else Utf8.runeError) = c at hc
  simp only
  rw [if_neg (by omega)]
  by_cases h1 : c < 2048
  · rw [if_pos h1]
    exact ⟨[UInt8.ofNat (192 + c / 64)], UInt8.ofNat (128 + c % 64), rfl, .inl rfl, hl c⟩
  · rw [if_neg h1]
    by_cases h3 : c < 65536
    · rw [if_pos h3]
      exact ⟨[UInt8.ofNat (224 + c / 4096), UInt8.ofNat (128 + c / 64 % 64)], UInt8.ofNat (128 + c % 64), rfl, .inr (.inl rfl), hl c⟩
    · rw [if_neg h3]
      exact ⟨[UInt8.ofNat (240 + c / 262144), UInt8.ofNat (128 + c / 4096 % 64), UInt8.ofNat (128 + c / 64 % 64)], UInt8.ofNat (128 + c % 64), rfl, .inr (.inr rfl), hl c⟩

theorem has_c3 (b : UInt8) : has b [9, 10, 13] = c3 b := by
  unfold has c3
  simp only [List.any_cons, List.any_nil, Bool.or_false]
  rw [Bool.or_assoc]
  congr 1
  · exact Bool.beq_comm
  · congr 1 <;> exact Bool.beq_comm

/-- an ASCII sign -/
theorem rune_ascii (b : UInt8) (w : World) (h : b.toNat < 128) : Calls Tryz.prog 137 #[.string ⟨#[9, 10, 13]⟩, .int .i32 b.toNat] w fun e w' => (∃ r : Int, e = .returned (.int .i64 r) ∧ decide (0 ≤ r) = c3 b) ∧ w = w' := by
  have h0 : (0 : Int) ≤ (b.toNat : Int) := by omega
  have h1 : (b.toNat : Int) < 128 := by omega
  have HI : Hid (decide (0 ≤ idx b (⟨#[9, 10, 13]⟩ : ByteArray).data.toList) = c3 b) := by
    rw [idx_has]; exact has_c3 b
  go_enter Tryz.func137, Tryz.ntmps137
  go_wp2_with (first | (go_at_call 115; refine (indexByte_any _ b _).mono ?_; rintro e w' ⟨rfl, rfl⟩))
  go_ret
  exact ⟨⟨_, rfl, HI.out⟩, rfl⟩

/-- the sign that stands for a fault -/
theorem rune_error (w : World) : Calls Tryz.prog 137 #[.string ⟨#[9, 10, 13]⟩, .int .i32 65533] w fun e w' => e = .returned (.int .i64 (-1)) ∧ Below w.heap.size w w' := by
  have n0 := fun ty => run_next_any (P := Tryz.prog) w ⟨#[9, 10, 13]⟩ 0 ty (by decide)
  have n1 := fun ty => run_next_any (P := Tryz.prog) w ⟨#[9, 10, 13]⟩ 1 ty (by decide)
  have n2 := fun ty => run_next_any (P := Tryz.prog) w ⟨#[9, 10, 13]⟩ 2 ty (by decide)
  have n3 := fun ty => run_next_end (P := Tryz.prog) w ⟨#[9, 10, 13]⟩ 3 ty (by decide)
  rw [show Utf8.decode ⟨#[9, 10, 13]⟩ 0 = (9, 1) by decide] at n0
  rw [show Utf8.decode ⟨#[9, 10, 13]⟩ 1 = (10, 1) by decide] at n1
  rw [show Utf8.decode ⟨#[9, 10, 13]⟩ 2 = (13, 1) by decide] at n2
  go_enter Tryz.func137, Tryz.ntmps137
  go_wp2
  go_loopw [5, 6] (fun _ _ wr => ∃ n : Nat, n ≤ 3 ∧ wr = w.iter ⟨#[9, 10, 13]⟩ n) (fun _ _ wr => 3 - wr.iterPos w.heap.size)
  case atStart => exact ⟨0, by decide, rfl⟩
  case round =>
    obtain ⟨n, hn, rfl⟩ := hrel
    have h4 : n = 0 ∨ n = 1 ∨ n = 2 ∨ n = 3 := by omega
    rcases h4 with rfl | rfl | rfl | rfl
    · clear n1 n2 n3
      go_wp2
      go_roundw
      case rel => exact ⟨1, by decide, rfl⟩
      case measure => simp
    · clear n0 n2 n3
      go_wp2
      go_roundw
      case rel => exact ⟨2, by decide, rfl⟩
      case measure => simp
    · clear n0 n1 n3
      go_wp2
      go_roundw
      case rel => exact ⟨3, by decide, rfl⟩
      case measure => simp
    · clear n0 n1 n2
      go_wp2
      go_ret
      exact ⟨rfl, (Below.refl _ _).alloc (Nat.le_refl _) _⟩

theorem idx_one (c : UInt8) (h : 128 ≤ c.toNat) (l : List UInt8) (hl : ∀ b ∈ l, b.toNat < 128) : idx c l = -1 := by
  refine idx_no ?_
  unfold has
  rw [List.any_eq_false]
  intro x hx
  have := hl x hx
  simp only [beq_iff_eq]
  rintro rfl
  omega

/-- any other sign -/
theorem rune_high (r : Int) (w : World) (h : 128 ≤ r) (h2 : r ≤ 1114111) (hv : Lib.validRune r = true) (hn : r ≠ 65533) : Calls Tryz.prog 137 #[.string ⟨#[9, 10, 13]⟩, .int .i32 r] w fun e w' => e = .returned (.int .i64 (-1)) ∧ Below w.heap.size w w' := by
  obtain ⟨q, c, he, hq, hc⟩ := enc_last r h h2
  have HV : Hid (Calls Tryz.prog 151 #[.int .i32 r] w fun e w' => e = .returned (.bool true) ∧ w' = w) := by
    have := Any.utf8_ValidRune lays119 r w
    rw [hv] at this; exact this
  clear hv
  have hne : (r == 65533) = false := by simpa using hn
  have hlt : ¬ r < 128 := by omega
  have h0 : 0 ≤ r := by omega
  have hsz : (mk (q ++ [c])).size = q.length + 1 := by rw [mk_size]; simp
  have hg : ∀ h, (mk (q ++ [c]))[q.length]'h = c := fun h => by rw [mk_get]; simp
  have hx13 := idx_one c hc [13] (by decide)
  have hx0 := idx_one c hc [] (by simp)
  have hk1 : ∀ h, ((⟨#[9, 10, 13]⟩ : ByteArray)[1]'h) = 10 := fun _ => rfl
  have hk2 : ∀ h, ((⟨#[9, 10, 13]⟩ : ByteArray)[2]'h) = 13 := fun _ => rfl
  have hd10 : ((10 : Int) == (c.toNat : Int)) = false := by rw [beq_eq_false_iff_ne]; omega
  have hd13 : ((13 : Int) == (c.toNat : Int)) = false := by rw [beq_eq_false_iff_ne]; omega
  have hn10 : ((10 : Int) != (c.toNat : Int)) = true := by rw [bne_iff_ne]; omega
  have hn13 : ((13 : Int) != (c.toNat : Int)) = true := by rw [bne_iff_ne]; omega
  rcases hq with hq | hq | hq
  · rw [hq] at hsz hg
    have HI : Hid (∀ w, Calls Tryz.prog 115 #[.string ⟨#[13]⟩, .int .u8 (c.toNat : Int)] w fun e w' => e = .returned (.int .i64 (-1)) ∧ w' = w) := fun w => (indexByte_any ⟨#[13]⟩ c w).mono (by
      rintro e w' ⟨rfl, rfl⟩
      exact ⟨by rw [show (⟨#[13]⟩ : ByteArray).data.toList = [13] from rfl, hx13], rfl⟩)
    have hex : (⟨#[9, 10, 13]⟩ : ByteArray).extract 2 3 = ⟨#[13]⟩ := by decide
    have hw2 : IntKind.i64.wrap 2 = 2 := by decide
    go_enter Tryz.func137, Tryz.ntmps137
    go_wp2_with (first | (go_at_call 151; refine HV.out.mono ?_; rintro e w' ⟨rfl, rfl⟩))
    go_step3
    go_wp2
    go_loop [9] (fun i => i = .int .i64 1) (fun _ => 0)
    case atStart => exact rfl
    case round =>
      obtain rfl := hrel
      go_wp2
      go_step3
      go_wp2
      go_region
      all_goals go_wp2
      go_quiet (exact (HI.out _).mono (fun _ _ ⟨he, hm⟩ => ⟨he, _, hm⟩))
      go_wp2
      rw [Exit.noGoto_ret]
      simp only [Exit.inBlock]
      rename_i Q5 _ _ _ _ _
      simp only [Q5, Exit.then, Exit.inBlock, Exit.noGoto_ret]
      go_ret
      exact ⟨rfl, ⟨rfl, rfl, rfl, Nat.le_refl _, fun _ _ => rfl⟩⟩
  · rw [hq] at hsz hg
    have HI : Hid (∀ w, Calls Tryz.prog 115 #[.string ⟨#[]⟩, .int .u8 (c.toNat : Int)] w fun e w' => e = .returned (.int .i64 (-1)) ∧ w' = w) := fun w => (indexByte_any ⟨#[]⟩ c w).mono (by
      rintro e w' ⟨rfl, rfl⟩
      exact ⟨by rw [show (⟨#[]⟩ : ByteArray).data.toList = [] from rfl, hx0], rfl⟩)
    have hex : (⟨#[9, 10, 13]⟩ : ByteArray).extract 3 3 = ⟨#[]⟩ := by decide
    have hw2 : IntKind.i64.wrap 3 = 3 := by decide
    go_enter Tryz.func137, Tryz.ntmps137
    go_wp2_with (first | (go_at_call 151; refine HV.out.mono ?_; rintro e w' ⟨rfl, rfl⟩))
    go_step3
    go_wp2
    go_loop [9] (fun i => i = .int .i64 2) (fun _ => 0)
    case atStart => exact rfl
    case round =>
      obtain rfl := hrel
      go_wp2
      go_step3
      go_wp2
      go_region
      all_goals go_wp2
      go_quiet (exact (HI.out _).mono (fun _ _ ⟨he, hm⟩ => ⟨he, _, hm⟩))
      go_wp2
      rw [Exit.noGoto_ret]
      simp only [Exit.inBlock]
      rename_i Q5 _ _ _ _ _
      simp only [Q5, Exit.then, Exit.inBlock, Exit.noGoto_ret]
      go_ret
      exact ⟨rfl, ⟨rfl, rfl, rfl, Nat.le_refl _, fun _ _ => rfl⟩⟩
  · rw [hq] at hsz hg
    go_enter Tryz.func137, Tryz.ntmps137
    go_wp2_with (first | (go_at_call 151; refine HV.out.mono ?_; rintro e w' ⟨rfl, rfl⟩))
    go_step3
    go_wp2
    go_loop [9] (fun i => i = .int .i64 3) (fun _ => 0)
    case atStart => exact rfl
    case round =>
      obtain rfl := hrel
      go_wp2
      go_ret
      exact ⟨rfl, ⟨rfl, rfl, rfl, Nat.le_refl _, fun _ _ => rfl⟩⟩

end Go.Proofs.YtaphijgbebhdlaaGreatDoor.Pln
end

section
/- strings.IndexAny at the three bytes: the short road; strings.ContainsAny; plain.isPrintable. -/
namespace Go.Proofs.YtaphijgbebhdlaaGreatDoor.Pln
open Utf Rws
open Go.RowKit
set_option linter.unusedSimpArgs false
set_option linter.unusedVariables false
set_option maxRecDepth 100000

/-- an iterator over a text that goes on, wherever it lies -/
def setIter (w : World) (b : Nat) (s : ByteArray) (p : Nat) : World := { w with heap := w.heap.setIfInBounds b (.stringIter s p) }
theorem setIter_size (w : World) (b : Nat) (s : ByteArray) (p : Nat) : (setIter w b s p).heap.size = w.heap.size := by simp [setIter]
theorem setIter_at (w : World) (b : Nat) (s : ByteArray) (p : Nat) (h : b < w.heap.size) : (setIter w b s p).heap[b]? = some (.stringIter s p) := by simp [setIter, h]
theorem setIter_below {w0 w : World} {b : Nat} (hb : Below b w0 w) (s : ByteArray) (p : Nat) : Below b w0 (setIter w b s p) :=
  ⟨hb.os, hb.tape, hb.output, by rw [setIter_size]; exact hb.size, fun k hk => by
    rw [← hb.block k hk]
    simp only [setIter]
    rw [Array.getElem?_setIfInBounds, if_neg (by omega)]⟩
theorem run_next_on (w : World) (b : Nat) (s : ByteArray) (pos : Nat) (ty : TypeId) (hb : w.heap[b]? = some (.stringIter s pos)) (h : pos < s.size) :
    (Instr.next (.pointer (some ⟨b, 0, none⟩)) true ty).run Tryz.prog w = .ok (.tuple #[.bool true, .int .i64 pos, .int .i32 (Utf8.decode s pos).1]) (setIter w b s (pos + (Utf8.decode s pos).2)) := by
  simp only [Instr.next, getObj, setObj, Sem.run_bind, Sem.run, hb, Result.andThen, h, if_true]
  simp [goInt, setIter]
theorem run_next_stop (w : World) (b : Nat) (s : ByteArray) (pos : Nat) (ty : TypeId) (hb : w.heap[b]? = some (.stringIter s pos)) (h : ¬ pos < s.size) :
    (Instr.next (.pointer (some ⟨b, 0, none⟩)) true ty).run Tryz.prog w = .ok (.tuple #[.bool false]) w := by
  simp [Instr.next, getObj, Sem.run, hb, h]

/-- the sign at a place whose byte is above 127 -/
theorem get_mk (l : List UInt8) (i : Nat) (h : i < l.length) : ((mk l).get! i) = l.getD i 0 := by
  rw [← mk_getD l i (by rw [mk_size]; exact h)]
  simp [ByteArray.get!, getElem!_pos, mk_size, h]
  rfl
theorem cont_hi {x : Nat} (h : x / 64 = 2) : 128 ≤ x := by omega
def cnt (s : ByteArray) (i k : Nat) : Bool := decide (i + k < s.size) && (s.get! (i + k)).toNat / 64 == 2
def okD (c1 c2 c3 : Bool) (d : Nat × Nat) : Prop := 128 ≤ d.1 ∧ d.1 ≤ 1114111 ∧ Lib.validRune (d.1 : Int) = true ∧ (d.2 = 1 ∨ (d.2 = 2 ∧ c1 = true) ∨ (d.2 = 3 ∧ c1 = true ∧ c2 = true) ∨ (d.2 = 4 ∧ c1 = true ∧ c2 = true ∧ c3 = true))
theorem okD_err (c1 c2 c3 : Bool) : okD c1 c2 c3 (Utf8.runeError, 1) := ⟨by decide, by decide, by decide, .inl rfl⟩
theorem val_ok {c : Nat} (hc : Utf8.valid (c : Int) = true) : c ≤ 1114111 ∧ Lib.validRune (c : Int) = true := by
  unfold Utf8.valid at hc
  unfold Lib.validRune
  simp at hc ⊢
  omega
set_option maxHeartbeats 4000000 in
theorem decode_ok (s : ByteArray) (i : Nat) (h : 128 ≤ (s.get! (i + 0)).toNat) : okD (cnt s i 1) (cnt s i 2) (cnt s i 3) (Utf8.decode s i) := by
  unfold Utf8.decode cnt
  dsimp only
  split
  · rename_i hlt; exact absurd hlt (by omega)
  split
  · rename_i q1
    rw [Bool.and_eq_true] at q1
    split
    · rename_i r1
      refine ⟨r1, by simp only; omega, ?_, .inr (.inl ⟨rfl, q1.2⟩)⟩
      unfold Lib.validRune; simp only [decide_eq_true_eq]; omega
    · exact okD_err _ _ _
  · split
    · rename_i q2
      rw [Bool.and_eq_true, Bool.and_eq_true] at q2
      split
      · rename_i r2
        rw [Bool.and_eq_true, decide_eq_true_eq] at r2
        obtain ⟨v1, v2⟩ := val_ok r2.2
        exact ⟨by simp only; omega, v1, v2, .inr (.inr (.inl ⟨rfl, q2.1.2, q2.2⟩))⟩
      · exact okD_err _ _ _
    · split
      · rename_i q3
        rw [Bool.and_eq_true, Bool.and_eq_true, Bool.and_eq_true] at q3
        split
        · rename_i r3
          rw [Bool.and_eq_true, decide_eq_true_eq] at r3
          obtain ⟨v1, v2⟩ := val_ok r3.2
          exact ⟨by simp only; omega, v1, v2, .inr (.inr (.inr ⟨rfl, q3.1.1.2, q3.1.2, q3.2⟩))⟩
        · exact okD_err _ _ _
      · exact okD_err _ _ _
theorem cnt_hi (l : List UInt8) (p k : Nat) (h : cnt (mk l) p k = true) : p + k < l.length ∧ 128 ≤ (l.getD (p + k) 0).toNat := by
  unfold cnt at h
  rw [Bool.and_eq_true, decide_eq_true_eq, beq_iff_eq, mk_size] at h
  refine ⟨h.1, ?_⟩
  rw [← get_mk l (p + k) h.1]
  exact cont_hi h.2
theorem decode_wide (l : List UInt8) (p : Nat) (h : p < l.length) (hb : 128 ≤ (l.getD p 0).toNat) :
    128 ≤ (Utf8.decode (mk l) p).1 ∧ (Utf8.decode (mk l) p).1 ≤ 1114111 ∧ Lib.validRune ((Utf8.decode (mk l) p).1 : Int) = true ∧ 1 ≤ (Utf8.decode (mk l) p).2 ∧ p + (Utf8.decode (mk l) p).2 ≤ l.length ∧
    ∀ j, p ≤ j → j < p + (Utf8.decode (mk l) p).2 → 128 ≤ (l.getD j 0).toNat := by
  have h0 : 128 ≤ ((mk l).get! (p + 0)).toNat := by rw [Nat.add_zero, get_mk l p h]; exact hb
  have hd := decode_ok (mk l) p h0
  obtain ⟨d1, d2, d3, d4⟩ := hd
  refine ⟨d1, d2, d3, ?_⟩
  generalize (Utf8.decode (mk l) p).2 = k at d4
  rcases d4 with rfl | ⟨rfl, e1⟩ | ⟨rfl, e1, e2⟩ | ⟨rfl, e1, e2, e3⟩
  · refine ⟨by omega, by omega, fun j h1 h2 => ?_⟩
    have : j = p := by omega
    rw [this]; exact hb
  · have f1 := cnt_hi l p 1 e1
    refine ⟨by omega, by omega, fun j h1 h2 => ?_⟩
    have : j = p ∨ j = p + 1 := by omega
    rcases this with rfl | rfl
    · exact hb
    · exact f1.2
  · have f1 := cnt_hi l p 1 e1
    have f2 := cnt_hi l p 2 e2
    refine ⟨by omega, by omega, fun j h1 h2 => ?_⟩
    have : j = p ∨ j = p + 1 ∨ j = p + 2 := by omega
    rcases this with rfl | rfl | rfl
    · exact hb
    · exact f1.2
    · exact f2.2
  · have f1 := cnt_hi l p 1 e1
    have f2 := cnt_hi l p 2 e2
    have f3 := cnt_hi l p 3 e3
    refine ⟨by omega, by omega, fun j h1 h2 => ?_⟩
    have : j = p ∨ j = p + 1 ∨ j = p + 2 ∨ j = p + 3 := by omega
    rcases this with rfl | rfl | rfl | rfl
    · exact hb
    · exact f1.2
    · exact f2.2
    · exact f3.2
theorem decode_low (l : List UInt8) (p : Nat) (h : p < l.length) (hb : (l.getD p 0).toNat < 128) : Utf8.decode (mk l) p = ((l.getD p 0).toNat, 1) := by
  have hp : p < (mk l).size := by rw [mk_size]; exact h
  have := decode_ascii (mk l) p hp (by rw [mk_getD]; exact hb)
  rw [mk_getD] at this
  exact this
theorem c3_hi {b : UInt8} (h : 128 ≤ b.toNat) : c3 b = false := by
  unfold c3
  simp only [Bool.or_eq_false_iff, beq_eq_false_iff_ne]
  refine ⟨⟨?_, ?_⟩, ?_⟩ <;> rintro rfl <;> revert h <;> decide
/-- one sign more has none of the three, if its first byte is none -/
theorem any_next (l : List UInt8) (p : Nat) (h : p < l.length) (h0 : (l.take p).any c3 = false) (hc : c3 (l.getD p 0) = false) :
    1 ≤ (Utf8.decode (mk l) p).2 ∧ p + (Utf8.decode (mk l) p).2 ≤ l.length ∧ (l.take (p + (Utf8.decode (mk l) p).2)).any c3 = false := by
  by_cases hb : (l.getD p 0).toNat < 128
  · rw [decode_low l p h hb]
    refine ⟨Nat.le_refl 1, by simp only; omega, ?_⟩
    simp only
    rw [any_take_snoc l p h, h0, hc]; rfl
  · obtain ⟨_, _, _, d1, d2, d3⟩ := decode_wide l p h (by omega)
    refine ⟨d1, d2, ?_⟩
    generalize (Utf8.decode (mk l) p).2 = k at d1 d2 d3
    have : ∀ m, m ≤ k → (l.take (p + m)).any c3 = false := by
      intro m
      induction m with
      | zero => intro _; exact h0
      | succ m ih =>
        intro hm
        rw [← Nat.add_assoc, any_take_snoc l (p + m) (by omega), ih (by omega), c3_hi (d3 (p + m) (by omega) (by omega))]; rfl
    exact this k (Nat.le_refl _)

def QRes (b : UInt8) (e : Ending) : Prop := ∃ q : Int, e = .returned (.int .i64 q) ∧ decide (0 ≤ q) = c3 b
theorem rune_any (l : List UInt8) (p : Nat) (w : World) (h : p < l.length) : Calls Tryz.prog 137 #[.string ⟨#[9, 10, 13]⟩, .int .i32 ((Utf8.decode (mk l) p).1 : Int)] w fun e w' => QRes (l.getD p 0) e ∧ Below w.heap.size w w' := by
  by_cases hb : (l.getD p 0).toNat < 128
  · rw [decode_low l p h hb]
    refine (rune_ascii (l.getD p 0) w hb).mono ?_
    rintro e w' ⟨⟨q, h1, h2⟩, rfl⟩
    exact ⟨⟨q, h1, h2⟩, Below.refl _ _⟩
  · obtain ⟨d1, d2, d3, _⟩ := decode_wide l p h (by omega)
    have hc := c3_hi (b := l.getD p 0) (by omega)
    by_cases he : (Utf8.decode (mk l) p).1 = 65533
    · rw [he]
      refine (rune_error w).mono ?_
      rintro e w' ⟨h1, h2⟩
      exact ⟨⟨-1, h1, by rw [hc]; rfl⟩, h2⟩
    · refine (rune_high ((Utf8.decode (mk l) p).1 : Int) w (by omega) (by omega) d3 (by omega)).mono ?_
      rintro e w' ⟨h1, h2⟩
      exact ⟨⟨-1, h1, by rw [hc]; rfl⟩, h2⟩

theorem indexAny_short (l : List UInt8) (w : World) (hs : l.length ≤ 140737488351232) (h8 : ¬ 8 < l.length) : Calls Tryz.prog 114 #[.string (mk l), .string ⟨#[9, 10, 13]⟩] w fun e w' => IxRes l e ∧ Below w.heap.size w w' := by
  have hsz := mk_size l
  have h8z : decide ((8 : Int) < (l.length : Int)) = false := decide_eq_false (by omega)
  go_enter Tryz.func114, Tryz.ntmps114
  go_wp2_with (first | (go_at_call 138; refine (shouldUse_any _ _).mono ?_; rintro e w' ⟨rfl, rfl⟩; rw [h8z]))
  go_loopg [9, 10] l.length (fun g _ _ wr => ∃ p : Nat, p + g = l.length ∧ Below w.heap.size w wr ∧ wr.heap[w.heap.size]? = some (.stringIter (mk l) p) ∧ (l.take p).any c3 = false)
  case atStart => exact ⟨0, by omega, (Below.refl _ _).alloc (Nat.le_refl _) _, World.iter_heap _ _ _, rfl⟩
  case round =>
    obtain ⟨p, hpg, hbe, hit, ht⟩ := hrel
    have HT : Hid ((l.take p).any c3 = false) := ht
    clear ht
    cases gk with
    | zero =>
      have hnx := fun ty => run_next_stop wr w.heap.size (mk l) p ty hit (by omega)
      have HN : Hid (anyB l = false) := by
        have := HT.out
        rw [List.take_of_length_le (by omega)] at this
        exact this
      clear hit
      go_wp2
      go_ret
      exact ⟨⟨-1, rfl, by rw [HN.out]; rfl⟩, hbe⟩
    | succ g =>
      have hlt : p < l.length := by omega
      have hnx := fun ty => run_next_on wr w.heap.size (mk l) p ty hit (by omega)
      have hbs : w.heap.size < wr.heap.size := by
        rcases Nat.lt_or_ge w.heap.size wr.heap.size with h | h
        · exact h
        · rw [Array.getElem?_eq_none (by omega)] at hit; cases hit
      have hb2 := setIter_below hbe (mk l) (p + (Utf8.decode (mk l) p).2)
      have hit2 := setIter_at wr w.heap.size (mk l) (p + (Utf8.decode (mk l) p).2) hbs
      have hz2 := setIter_size wr w.heap.size (mk l) (p + (Utf8.decode (mk l) p).2)
      have HR := rune_any l p (setIter wr w.heap.size (mk l) (p + (Utf8.decode (mk l) p).2)) hlt
      have HHit := any_hit l p hlt
      have HNx := any_next l p hlt HT.out
      generalize (Utf8.decode (mk l) p).1 = r at hnx HR
      generalize (Utf8.decode (mk l) p).2 = k at hnx HR hb2 hit2 hz2 HNx
      generalize l.getD p 0 = b at HR HHit HNx
      obtain ⟨W, HW⟩ : ∃ W, Hid (setIter wr w.heap.size (mk l) (p + k) = W) := ⟨_, rfl⟩
      rw [HW.out] at hnx HR hb2 hit2 hz2
      have HRR : Hid (Calls Tryz.prog 137 #[.string ⟨#[9, 10, 13]⟩, .int .i32 (r : Int)] W fun e w' => QRes b e ∧ Below W.heap.size W w') := HR
      have HIT : Hid (W.heap[w.heap.size]? = some (.stringIter (mk l) (p + k))) := hit2
      have HZ : Hid (W.heap.size = wr.heap.size) := hz2
      have HHI : Hid (c3 b = true → anyB l = true) := HHit
      have HNN : Hid (c3 b = false → 1 ≤ k ∧ p + k ≤ l.length ∧ (l.take (p + k)).any c3 = false) := HNx
      clear HR hit2 hz2 HHit HNx hit HW
      cases hb : c3 b
      · go_wp2_with (first | (go_at_call 137; refine HRR.out.mono ?_; rintro e w2 ⟨⟨q, rfl, hq⟩, hb3⟩; rw [hb] at hq))
        obtain ⟨n1, n2, n3⟩ := HNN.out hb
        go_roundg (l.length - (p + k))
        case measure => omega
        case rel => exact ⟨p + k, by omega, hb2.trans (hb3.mono (by rw [HZ.out]; omega)), (hb3.block _ (by rw [HZ.out]; exact hbs)).trans HIT.out, n3⟩
      · go_wp2_with (first | (go_at_call 137; refine HRR.out.mono ?_; rintro e w2 ⟨⟨q, rfl, hq⟩, hb3⟩; rw [hb] at hq))
        go_ret
        exact ⟨⟨(p : Int), rfl, by rw [HHI.out hb]; simp⟩, hb2.trans (hb3.mono (by rw [HZ.out]; omega))⟩

theorem containsAny_any (l : List UInt8) (w : World) (hs : l.length ≤ 140737488351232) : Calls Tryz.prog 96 #[.string (mk l), .string ⟨#[9, 10, 13]⟩] w fun e w' => e = .returned (.bool (anyB l)) ∧ Below w.heap.size w w' := by
  have HI : Hid (Calls Tryz.prog 114 #[.string (mk l), .string ⟨#[9, 10, 13]⟩] w fun e w' => IxRes l e ∧ Below w.heap.size w w') := by
    by_cases h8 : 8 < l.length
    · exact indexAny_long l w hs h8
    · exact indexAny_short l w hs h8
  go_enter Tryz.func96, Tryz.ntmps96
  go_wp2_with (first | (go_at_call 114; refine HI.out.mono ?_; rintro e w' ⟨⟨q, rfl, hq⟩, hb⟩))
  go_ret
  exact ⟨rfl, hb⟩

end Go.Proofs.YtaphijgbebhdlaaGreatDoor.Pln
end
