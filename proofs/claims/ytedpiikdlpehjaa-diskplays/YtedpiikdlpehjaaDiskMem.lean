/- A disk in memory: rows, tables, files; and what a call leaves as it was. -/
import Derived.Test.YtedpiikdlpehjaaDiskModel
import Derived.Test.YtedpiikdlpehjaaProg
import Derived.WalkKit
import Derived.Maps.OwnSet
import Derived.Maps.Ext
import Derived.Below
import Derived.OwnWalk
import Derived.Deep.AppendSrc
import Derived.Laws.BytesArg
import Derived.Laws.IdiomStrings
import Derived.Sort.KeysCollected
import Derived.Deep.Cut
namespace Go.Proofs.Ytedpiikdlpehjaa.Dsk
open Go Go.RowKit Go.Maps
set_option linter.unusedSimpArgs false
set_option linter.unusedVariables false

def str (l : List UInt8) : ByteArray := ⟨l.toArray⟩
theorem str_data (l : List UInt8) : (str l).data.toList = l := by simp [str]
theorem str_inj {a b : List UInt8} (h : str a = str b) : a = b := by rw [← str_data a, h, str_data]
theorem str_size (l : List UInt8) : (str l).size = l.length := by simp [str, ByteArray.size]
theorem str_of (a : ByteArray) : a = str a.data.toList := by cases a; simp [str]
/-- bytes as cells -/
def byC (l : List UInt8) : List Value := l.map fun x => Value.int .u8 (x.toNat : Int)
theorem byC_len (l : List UInt8) : (byC l).length = l.length := by simp [byC]
theorem byC_app (a b : List UInt8) : byC (a ++ b) = byC a ++ byC b := by simp [byC]
theorem byC_take (l : List UInt8) (k : Nat) : byC (l.take k) = (byC l).take k := by simp [byC, List.map_take]
theorem byC_at (l : List UInt8) (i : Nat) (h : i < l.length) : (byC l)[i]? = some (.int .u8 ((l.getD i 0).toNat : Int)) := by
  simp [byC, List.getElem?_eq_getElem h]
theorem byC_one (l : List UInt8) : ∀ u ∈ byC l, u.oneCell' = true := by
  intro u hu
  simp only [byC, List.mem_map] at hu
  obtain ⟨x, _, rfl⟩ := hu
  rfl

/-! ### a row of cells -/
def Row (w : World) (g : Nat) (t : TypeId) (cur : List Value) : Prop := w.heap[g]? = some (.cells cur.toArray t (0, 0))
theorem Row.cell {w : World} {g : Nat} {t : TypeId} {cur : List Value} (h : Row w g t cur) (i : Nat) : w.cell? ⟨g, i, none⟩ = cur[i]? := by
  rw [cell_of_row w g i cur.toArray t (0, 0) h]; simp
theorem Row.free {w : World} {g : Nat} {t : TypeId} {cur : List Value} (h : Row w g t cur) (i : Nat) : w.frozen? ⟨g, i, none⟩ = false := by
  unfold Row at h
  simp only [World.frozen?]; rw [h]; simp
theorem Row.set {w : World} {g : Nat} {t : TypeId} {cur : List Value} (h : Row w g t cur) (i : Nat) (v : Value) : Row (w.setCell ⟨g, i, none⟩ v) g t (cur.set i v) := by
  unfold Row at *
  rw [setCell_eq_setRow w g i _ t (0, 0) _ h, setRow_heap w g _ _ t _ h]
  simp
theorem Row.lt {w : World} {g : Nat} {t : TypeId} {cur : List Value} (h : Row w g t cur) : g < w.heap.size := (Array.getElem?_eq_some_iff.1 h).1
theorem Row.mk (w : World) (cur : List Value) (t : TypeId) : Row (w.alloc (.cells cur.toArray t)) w.heap.size t cur := heap_alloc_new w _
theorem Row.at_ {w w' : World} {g : Nat} {t : TypeId} {cur : List Value} (h : Row w g t cur) (e : w'.heap[g]? = w.heap[g]?) : Row w' g t cur := e.trans h
theorem Row.inj {w : World} {g : Nat} {t t' : TypeId} {c c' : List Value} (h : Row w g t c) (h' : Row w g t' c') : t = t' ∧ c = c' := by
  unfold Row at *
  rw [h] at h'
  simp at h'
  exact ⟨h'.2, h'.1⟩

/-! ### what a call leaves -/
/-- memory turns within F and in new blocks alone -/
structure Only (F : Nat → Prop) (w w' : World) : Prop where
  os : w'.os = w.os
  tape : w'.tape = w.tape
  output : w'.output = w.output
  size : w.heap.size ≤ w'.heap.size
  block : ∀ k, k < w.heap.size → ¬ F k → w'.heap[k]? = w.heap[k]?
theorem Only.refl (F : Nat → Prop) (w : World) : Only F w w := ⟨rfl, rfl, rfl, Nat.le_refl _, fun _ _ _ => rfl⟩
theorem Only.trans {F G : Nat → Prop} {a b c : World} (h : Only F a b) (k : Only G b c) (hG : ∀ i, G i → F i ∨ a.heap.size ≤ i) : Only F a c :=
  ⟨k.os.trans h.os, k.tape.trans h.tape, k.output.trans h.output, Nat.le_trans h.size k.size, fun i hi hf => (k.block i (Nat.lt_of_lt_of_le hi h.size) (fun g => by
    rcases hG i g with q | q
    · exact hf q
    · omega)).trans (h.block i hi hf)⟩
theorem Only.step {F : Nat → Prop} {a b c : World} (h : Only F a b) (k : Only F b c) : Only F a c := h.trans k fun _ q => .inl q
theorem Only.mono {F G : Nat → Prop} {a b : World} (h : Only F a b) (hG : ∀ i, F i → G i) : Only G a b := ⟨h.os, h.tape, h.output, h.size, fun i hi hg => h.block i hi fun q => hg (hG i q)⟩
theorem Only.of_below {F : Nat → Prop} {w w' : World} (h : Below w.heap.size w w') : Only F w w' := ⟨h.os, h.tape, h.output, h.size, fun i hi _ => h.block i hi⟩
theorem Only.below {F : Nat → Prop} {w w' : World} (h : Only F w w') {B : Nat} (hB : B ≤ w.heap.size) (hF : ∀ i, F i → B ≤ i) : Below B w w' :=
  ⟨h.os, h.tape, h.output, h.size, fun i hi => h.block i (Nat.lt_of_lt_of_le hi hB) fun q => by have := hF i q; omega⟩
theorem Only.below_all {F : Nat → Prop} {w w' : World} (h : Only F w w') (hF : ∀ i, F i → w.heap.size ≤ i) : Below w.heap.size w w' := h.below (Nat.le_refl _) hF
theorem Only.drew {F : Nat → Prop} {a w : World} (h : Only F a w) : Only F a w.drew := ⟨h.os, h.tape, h.output, h.size, h.block⟩
theorem Only.alloc {F : Nat → Prop} {a w : World} (h : Only F a w) (o : Obj) : Only F a (w.alloc o) :=
  h.step (Only.of_below ((Below.refl _ w).alloc (Nat.le_refl _) o))
theorem Only.setCell {F : Nat → Prop} {a w : World} (h : Only F a w) {p : Addr} (hp : F p.block ∨ a.heap.size ≤ p.block) (u : Value) : Only F a (w.setCell p u) :=
  h.trans (G := fun k => k = p.block) ⟨rfl, rfl, rfl, by simp [World.setCell], fun k hk hn => Below.heap_setCell _ _ _ _ hn⟩ fun i hi => by subst hi; exact hp
theorem Only.grown {F : Nat → Prop} {a w w' : World} {row : Option Nat} (h : Only F a w) (hg : w.grownBy w' row) (hr : ∀ k, row = some k → F k ∨ a.heap.size ≤ k) : Only F a w' :=
  h.trans (G := fun k => row = some k) ⟨hg.os, hg.tape, hg.output, hg.size, fun k hk hn => hg.block k hk (fun e => hn e.symm)⟩ fun i hi => hr i hi
theorem Only.of_grown {w w' : World} {row : Option Nat} {F : Nat → Prop} (hg : w.grownBy w' row) (hr : ∀ k, row = some k → F k ∨ w.heap.size ≤ k) : Only F w w' := (Only.refl F w).grown hg hr

/-! ### tables -/
def elemR : Value → Option (DataW Unit × List MemPlace)
  | .pointer (some ⟨b, 0, none⟩) => some (.lit (.int .i64 b), [])
  | .pointer none => some (.nil, [])
  | _ => none
/-- a file's pointer -/
def pv (ad : List Nat) : Option Nat → Value
  | none => .pointer none
  | some i => .pointer (some ⟨ad.getD i 0, 0, none⟩)
def pd (ad : List Nat) : Option Nat → DataW Unit
  | none => .nil
  | some i => .lit (.int .i64 (ad.getD i 0))
theorem elemR_pv (ad : List Nat) (o : Option Nat) : elemR (pv ad o) = some (pd ad o, []) := by cases o <;> rfl
theorem elemR_inv {v : Value} {y : DataW Unit × List MemPlace} (h : elemR v = some y) : (v = .pointer none ∧ y = (.nil, [])) ∨ ∃ b : Nat, v = .pointer (some ⟨b, 0, none⟩) ∧ y = (.lit (.int .i64 b), []) := by
  unfold elemR at h
  split at h
  · cases h; exact .inr ⟨_, rfl, rfl⟩
  · cases h; exact .inl ⟨rfl, rfl⟩
  · cases h
def ent (ad : List Nat) (p : Nm × Nat) : Lit × DataW Unit := (.string p.1, .lit (.int .i64 (ad.getD p.2 0)))
def dat (ad : List Nat) (t : Tbl) : DataW Unit := .map (t.map (ent ad))
theorem dat_del (ad : List Nat) (t : Tbl) (k : Nm) : (dat ad t).del (.string k) = dat ad (del t k) := by
  simp only [dat, DataW.del, del, List.filter_map]
  congr 1
theorem ent_ins (ad : List Nat) (x : Nm × Nat) : ∀ t : Tbl, DataW.insert (ent ad x) (t.map (ent ad)) = (ins x t).map (ent ad)
  | [] => rfl
  | y :: r => by
    simp only [List.map_cons, DataW.insert, ins]
    have e : (ent ad x).1.before (ent ad y).1 = bytesBefore x.1 y.1 := rfl
    rw [e]
    split
    · rfl
    · rw [ent_ins ad x r]; rfl
theorem dat_put (ad : List Nat) (t : Tbl) (k : Nm) (i : Nat) : (dat ad t).put (.string k) (pd ad (some i)) = dat ad (put t k i) := by
  have e : (t.map (ent ad)).filter (fun p => !p.1.sameKey (.string k)) = (del t k).map (ent ad) := by
    simp only [del, List.filter_map]
    rfl
  simp only [dat, DataW.put]
  rw [e, show ((Lit.string k, pd ad (some i)) : Lit × DataW Unit) = ent ad (k, i) from rfl, ent_ins]
  rfl
theorem dat_at (ad : List Nat) (t : Tbl) (k : Nm) : (dat ad t).atKey (.string k) .nil = pd ad (look t k) := by
  simp only [dat, DataW.atKey, look]
  rw [List.find?_map]
  have e : ((fun p : Lit × DataW Unit => p.1.sameKey (.string k)) ∘ ent ad) = fun p : Nm × Nat => p.1 == k := rfl
  rw [e]
  cases t.find? (fun p => p.1 == k) <;> rfl
theorem dat_size (ad : List Nat) (t : Tbl) : Maps.size (dat ad t) = t.length := by simp [dat, Maps.size]
theorem dat_keys (ad : List Nat) (t : Tbl) : strKeys (dat ad t) = t.map (·.1) := by
  simp only [dat, strKeys, List.map_map]
  congr 1
theorem dat_more (ad : List Nat) (b : List Nat) {t : Tbl} (h : ∀ p ∈ t, p.2 < ad.length) : dat (ad ++ b) t = dat ad t := by
  unfold dat
  congr 1
  apply List.map_congr_left
  intro p hp
  have := h p hp
  simp only [ent, List.getD_eq_getElem?_getD, List.getElem?_append_left this]
theorem strKeyed : Keyed Try.prog 9 := string_keyed Try.underlying9
theorem zeroFile (w : World) : (zeroValue 76).run Try.prog w = .ok (.pointer none) w := by kernel_rfl
def TblAt (w : World) (b : Nat) (ad : List Nat) (t : Tbl) : Prop := w.ownsMap Try.prog 9 elemR b t.length (dat ad t)
theorem owns_tight {w : World} {b n : Nat} {ad : List Nat} {t : Tbl} (h : w.ownsMap Try.prog 9 elemR b n (dat ad t)) : TblAt w b ad t := by
  obtain ⟨es, clock, hb, F, hs, hD⟩ := h
  refine ⟨es, clock, hb, F, ?_, hD⟩
  have h1 := congrArg Maps.size hD
  rw [dat_size, Maps.size_eq, length_sorted, List.length_map, Array.length_toList] at h1
  exact Nat.le_of_eq h1.symm
theorem TblAt.at_ {w w' : World} {b : Nat} {ad : List Nat} {t : Tbl} (h : TblAt w b ad t) (e : w'.heap[b]? = w.heap[b]?) : TblAt w' b ad t := by
  obtain ⟨es, clock, hb, F, hs, hD⟩ := h
  exact ⟨es, clock, e.trans hb, F, hs, hD⟩
theorem key_str {n : Nm} (h : n.length ≤ maxLen) : keyOf Try.prog 9 (.string (str n)) = some (.string n) := by
  rw [WideMaps.keyOf_string_mk Try.underlying9 (by rw [str_size]; exact h), str_data]
theorem TblAt.lookup {w : World} {b : Nat} {ad : List Nat} {t : Tbl} (h : TblAt w b ad t) {n : Nm} (hn : n.length ≤ maxLen) :
    (Instr.lookup 59 (.map (some b)) (.string (str n)) false).run Try.prog w = .ok (pv ad (look t n)) w := by
  obtain ⟨v, ps, hrun, hv⟩ := World.ownsMap.lookup h strKeyed Try.underlying59 (zeroFile w) (zd := .nil) (zp := []) rfl (key_str hn)
  rw [dat_at] at hv
  refine hrun.trans (congrArg (fun x => Result.ok x w) ?_)
  cases hl : look t n with
  | none =>
    rw [hl] at hv
    rcases elemR_inv hv with ⟨rfl, _⟩ | ⟨b', rfl, e⟩
    · rfl
    · simp [pd] at e
  | some i =>
    rw [hl] at hv
    rcases elemR_inv hv with ⟨rfl, e⟩ | ⟨b', rfl, e⟩
    · simp [pd] at e
    · simp [pd] at e
      have e2 : ad.getD i 0 = b' := by
        rw [List.getD_eq_getElem?_getD]
        exact Int.ofNat.inj e.1
      rw [← e2]
      rfl
theorem TblAt.len {w : World} {b : Nat} {ad : List Nat} {t : Tbl} (h : TblAt w b ad t) (ty : TypeId) : (Builtin.len_ #[59] ty #[.map (some b)]).run Try.prog w = .ok (.int .i64 t.length) w := by
  have h1 := World.ownsMap.len h Try.underlying59 ty
  rwa [dat_size] at h1
theorem TblAt.lt {w : World} {b : Nat} {ad : List Nat} {t : Tbl} (h : TblAt w b ad t) : b < w.heap.size := World.ownsMap.lt h

/-! ### bytes that are held -/
def Held (w : World) (v : Value) (l : List UInt8) : Prop :=
  (v = .slice none 0 0 ∧ l = []) ∨ ∃ g cap cur, v = .slice (some ⟨g, 0, none⟩) l.length cap ∧ Row w g 5 cur ∧ l.length ≤ cap ∧ cap ≤ cur.length ∧ cap ≤ maxLen ∧ cur.take l.length = byC l
theorem Held.at_ {w w' : World} {v : Value} {l : List UInt8} (h : Held w v l) (e : ∀ b, v.ownBlock = some b → w'.heap[b]? = w.heap[b]?) : Held w' v l := by
  rcases h with h | ⟨g, cap, cur, rfl, hr, h1, h2, h3, h4⟩
  · exact .inl h
  · exact .inr ⟨g, cap, cur, rfl, hr.at_ (e g rfl), h1, h2, h3, h4⟩
theorem Held.lt {w : World} {v : Value} {l : List UInt8} (h : Held w v l) {b : Nat} (hb : v.ownBlock = some b) : b < w.heap.size := by
  rcases h with ⟨rfl, _⟩ | ⟨g, cap, cur, rfl, hr, _⟩
  · cases hb
  · simp [Value.ownBlock] at hb
    subst hb
    exact hr.lt
theorem Held.row {w : World} {v : Value} {l : List UInt8} (h : Held w v l) {b : Nat} (hb : v.ownBlock = some b) : ∃ cur, Row w b 5 cur := by
  rcases h with ⟨rfl, _⟩ | ⟨g, cap, cur, rfl, hr, _⟩
  · cases hb
  · simp [Value.ownBlock] at hb
    subst hb
    exact ⟨_, hr⟩
structure FileAt (w : World) (b : Nat) (v : Value) (f : Fl) : Prop where
  cell : Row w b 81 [v, .int .i64 f.kept]
  held : Held w v f.data
theorem FileAt.at_ {w w' : World} {b : Nat} {v : Value} {f : Fl} (h : FileAt w b v f) (e : w'.heap[b]? = w.heap[b]?) (e' : ∀ g, v.ownBlock = some g → w'.heap[g]? = w.heap[g]?) : FileAt w' b v f :=
  ⟨h.cell.at_ e, h.held.at_ e'⟩

/-! ### the disk -/
def chgC (ad : List Nat) (c : Chg) : List Value := [.string (str c.gone), .string (str c.name), pv ad c.to]
def dC (m : M) (nB kB : Nat) (sv : Value) : List Value :=
  [.bool true, .bool m.on, .int .i64 m.room, .int .i64 m.calls, .int .i64 m.fuse, .map (some nB), .map (some kB), sv]
/-- what is asked of the plain disk -/
structure Wf (m : M) : Prop where
  names : m.names = settle m.kept m.since
  ok : ∀ j, Ok (settle m.kept (m.since.take j)) m.files.length
  few : ∀ j, (settle m.kept (m.since.take j)).length ≤ 64
  to : ∀ c ∈ m.since, ∀ i, c.to = some i → i < m.files.length
  nms : ∀ c ∈ m.since, c.gone.length ≤ 32 ∧ c.name.length ≤ 32
  files : ∀ i, i < m.files.length → (m.file i).kept ≤ (m.file i).data.length ∧ (m.file i).data.length ≤ m.room
  room : m.room ≤ 1048576
  sinceN : m.since.length ≤ m.calls
  filesN : m.files.length ≤ m.calls
  fuse : -1 ≤ m.fuse ∧ m.fuse ≤ 9223372036854775807
theorem Wf.okN {m : M} (h : Wf m) : Ok m.names m.files.length := by
  have := h.ok m.since.length
  rw [List.take_length] at this
  rw [h.names]; exact this
theorem Wf.okK {m : M} (h : Wf m) : Ok m.kept m.files.length := h.ok 0
theorem Wf.fewN {m : M} (h : Wf m) : m.names.length ≤ 64 := by
  have := h.few m.since.length
  rw [List.take_length] at this
  rw [h.names]; exact this
structure DiskIn (w : World) (F : Nat → Prop) (d : Nat) (m : M) (ad : List Nat) (dv : List Value) (nB kB : Nat) (sv : Value) : Prop where
  cell : Row w d 62 (dC m nB kB sv)
  names : TblAt w nB ad m.names
  kept : TblAt w kB ad m.kept
  nk : nB ≠ kB
  since : w.ownsRow 0 86 3 sv m.since.length (m.since.flatMap (chgC ad))
  len : ad.length = m.files.length
  dlen : dv.length = m.files.length
  apart : ∀ i j, i < m.files.length → j < m.files.length → i ≠ j → ad.getD i 0 ≠ ad.getD j 0
  file : ∀ i, i < m.files.length → FileAt w (ad.getD i 0) (dv.getD i undef) (m.file i)
  rows : ∀ i j, i < m.files.length → j < m.files.length → i ≠ j → ∀ b, (dv.getD i undef).ownBlock = some b → (dv.getD j undef).ownBlock ≠ some b
  fd : F d
  fn : F nB
  fk : F kB
  fs : ∀ b, sv.ownBlock = some b → F b
  ff : ∀ i, i < m.files.length → F (ad.getD i 0)
  fr : ∀ i, i < m.files.length → ∀ b, (dv.getD i undef).ownBlock = some b → F b
  lt : ∀ k, F k → k < w.heap.size
def DiskAt (w : World) (F : Nat → Prop) (d : Nat) (m : M) : Prop := Wf m ∧ ∃ ad dv nB kB sv, DiskIn w F d m ad dv nB kB sv
theorem DiskIn.at_ {w w' : World} {F : Nat → Prop} {d : Nat} {m : M} {ad : List Nat} {dv : List Value} {nB kB : Nat} {sv : Value} (h : DiskIn w F d m ad dv nB kB sv) (hs : w.heap.size ≤ w'.heap.size) (e : ∀ k, F k → w'.heap[k]? = w.heap[k]?) : DiskIn w' F d m ad dv nB kB sv :=
  { h with
    cell := h.cell.at_ (e _ h.fd)
    names := h.names.at_ (e _ h.fn)
    kept := h.kept.at_ (e _ h.fk)
    since := by
      refine ⟨h.since.1, ?_⟩
      rcases h.since.2 with q | ⟨g, cap, cur, rfl, h0, hb, r⟩
      · exact .inl q
      · exact .inr ⟨g, cap, cur, rfl, h0, (e g (h.fs g rfl)).trans hb, r⟩
    file := fun i hi => (h.file i hi).at_ (e _ (h.ff i hi)) (fun g hg => e g (h.fr i hi g hg))
    lt := fun k hk => Nat.lt_of_lt_of_le (h.lt k hk) hs }
theorem DiskAt.at_ {w w' : World} {F : Nat → Prop} {d : Nat} {m : M} (h : DiskAt w F d m) (hs : w.heap.size ≤ w'.heap.size) (e : ∀ k, F k → w'.heap[k]? = w.heap[k]?) : DiskAt w' F d m := by
  obtain ⟨hw, ad, dv, nB, kB, sv, h⟩ := h
  exact ⟨hw, ad, dv, nB, kB, sv, h.at_ hs e⟩
theorem DiskAt.lt {w : World} {F : Nat → Prop} {d : Nat} {m : M} (h : DiskAt w F d m) : ∀ k, F k → k < w.heap.size := by
  obtain ⟨hw, ad, dv, nB, kB, sv, h⟩ := h
  exact h.lt
theorem DiskAt.below {w w' : World} {F : Nat → Prop} {d : Nat} {m : M} (h : DiskAt w F d m) (hb : Below w.heap.size w w') : DiskAt w' F d m :=
  h.at_ hb.size fun k hk => hb.block k (h.lt k hk)
theorem DiskAt.only {w w' : World} {F G : Nat → Prop} {d : Nat} {m : M} (h : DiskAt w F d m) (hb : Only G w w') (hd : ∀ k, F k → ¬ G k) : DiskAt w' F d m :=
  h.at_ hb.size fun k hk => hb.block k (h.lt k hk) (hd k hk)
/-- what a call that turns a disk leaves -/
def Post (F : Nat → Prop) (d : Nat) (w w' : World) (m : M) : Prop := ∃ F', DiskAt w' F' d m ∧ (∀ k, F' k → F k ∨ w.heap.size ≤ k) ∧ Only F w w'

end Go.Proofs.Ytedpiikdlpehjaa.Dsk
