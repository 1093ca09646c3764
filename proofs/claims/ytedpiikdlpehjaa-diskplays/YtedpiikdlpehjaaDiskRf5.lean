/- The document's disk: change, put. -/
import Derived.Test.YtedpiikdlpehjaaDiskRf4
import Derived.Laws.AppendOwnNone
namespace Go.Proofs.Ytedpiikdlpehjaa.Dsk
open Go Go.RowKit Go.Maps
set_option linter.unusedSimpArgs false
set_option linter.unusedVariables false

theorem infoSl : (Try.prog.info? 30).map (fun i => (i.zero, i.size, i.bytes)) = some (some (.slice none 0 0), 1, 24) := by kernel_rfl
theorem infoFile : (Try.prog.info? 75).map (fun i => (i.zero, i.size, i.bytes)) = some (some (.agg #[.string ⟨#[]⟩, .string ⟨#[]⟩]), 2, 32) := by kernel_rfl
/-- one step of a region that draws: an append, of whatever slice, to a row of one's own -/
theorem step_append_any {P : Program} {ops : Array Oper} {o : Oper} {a : Go.Act} {w : World} {K : Go.Act → World → Prop} {Q : Exit → Go.Act → World → Prop} {E : Prop}
    (hg : o.guard = none) (s x : Operand) (t : TypeId) (hop : o.op = Op.call { callee := Callee.builtin Builtin.append, args := #[s, x], argTypes := #[t, t] }) (base : Nat)
    (e : TypeId) (i : TypeInfo) (z : Value) (size bytes : Nat) (h1 : P.underlying t = some (.slice e)) (h2 : P.info? e = some i) (h3 : i.zero = some z) (h4 : i.size = size) (h5 : i.bytes = bytes) (h6 : z.cells.size = size) (h7 : 0 < size)
    (v : Value) (n : Nat) (xs : List Value) (hs : a.eval s = v) (hown : w.ownsRow base e size v n xs)
    (sa : Option Addr) (m c : Nat) (news : List Value) (hx : a.eval x = .slice sa m c) (hnone : sa = none → m = 0 ∧ c = 0) (hn : news.length = m * size) (hc : ∀ ad, sa = some ad → ∀ j u, news[j]? = some u → w.cell? (ad.add j) = some u) (h1c : ∀ u ∈ news, u.oneCell' = true)
    (b1 : n + m ≤ maxLen) (b2 : (n + m) * bytes ≤ 140737488355328) (hbase : base ≤ w.heap.size)
    (hK : ∀ v' w', w'.ownsRow base e size v' (n + m) (xs ++ news) → w.grownBy w' v.ownBlock → K (a.put o.dst v') w') :
    if Region.wanted o (yielded ops a.tmps) = true then Oper.wp P o a w K Q else E := by
  cases sa with
  | some ad => exact step_append_own hg s x t hop base e i z size bytes h1 h2 h3 h4 h5 h6 h7 v n xs hs hown ad m c news hx hn (hc ad rfl) h1c b1 b2 hbase hK
  | none =>
    obtain ⟨rfl, rfl⟩ := hnone rfl
    obtain rfl : news = [] := List.eq_nil_of_length_eq_zero (by omega)
    exact step_append_none hg s x t hop base e i size h1 h2 v n xs hs hown hx (hK v w (by simpa using hown) (World.grownBy.refl w _))
theorem wpList_append_any {P : Program} {w : World} {ops : Array Oper} {rest : List Oper} {o : Oper} {a : Go.Act} {Q : Exit → Go.Act → World → Prop} (hgd : o.guard = none) (s x : Operand) (t : TypeId)
    (ho : o.op = .call { callee := .builtin .append, args := #[s, x], argTypes := #[t, t] })
    (base : Nat) (e : TypeId) (i : TypeInfo) (z : Value) (size bytes : Nat) (ht : P.underlying t = some (.slice e)) (hi : P.info? e = some i) (hz : i.zero = some z)
    (hsize : i.size = size) (hby : i.bytes = bytes) (hzs : z.cells.size = size) (hsz : 0 < size)
    (v : Value) (n : Nat) (xs : List Value) (hs : a.eval s = v) (hown : w.ownsRow base e size v n xs)
    (sa : Option Addr) (m c : Nat) (news : List Value) (hx : a.eval x = .slice sa m c) (hnone : sa = none → m = 0 ∧ c = 0) (hl : news.length = m * size) (hnews : ∀ ad, sa = some ad → ∀ j u, news[j]? = some u → w.cell? (ad.add j) = some u) (h1 : ∀ u ∈ news, u.oneCell' = true)
    (h63 : n + m ≤ maxLen) (hbytes : (n + m) * bytes ≤ 140737488355328) (hbase : base ≤ w.heap.size)
    (h : ∀ v' w', w'.ownsRow base e size v' (n + m) (xs ++ news) → w.grownBy w' v.ownBlock → wpList P ops Q rest (a.put o.dst v') w') :
    wpList P ops Q (o :: rest) a w := by
  cases sa with
  | some ad => exact wpList_append_own_at _ hgd s x t ho base e i z size bytes ht hi hz hsize hby hzs hsz v n xs hs hown ad m c news hx hl (hnews ad rfl) h1 h63 hbytes hbase fun v' w' h1 h2 _ _ => h v' w' h1 h2
  | none =>
    obtain ⟨rfl, rfl⟩ := hnone rfl
    obtain rfl : news = [] := List.eq_nil_of_length_eq_zero (by omega)
    exact wpList_append_own_none hgd s x t ho base e i size ht hi v n xs hs hown hx (h v w (by simpa using hown) (World.grownBy.refl w _))
/-- a slice in memory as a source -/
theorem SlC.src {w W : World} {X : Nat → Prop} {sz n : Nat} {a : Option Addr} {cap : Nat} {us : List Value} (h : SlC w X sz (.slice a n cap) n us) (hb : Below w.heap.size w W) : ∀ ad, a = some ad → ∀ j u, us[j]? = some u → W.cell? (ad.add j) = some u := by
  intro ad ha j u hu
  obtain ⟨a', cap', h1, h2, h3, h5, h6, h4⟩ := h
  cases h1
  obtain ⟨b, off, e, hx, hlt, c0⟩ := h4 j u hu
  rw [ha] at e
  cases e
  rw [add_at]
  exact (hb.cell (p := ⟨b, off + j, none⟩) hlt).trans c0
theorem cell1 (w : World) (a : Value) (t : TypeId) : ∀ j u, ([a])[j]? = some u → (w.alloc (.cells #[a] t)).cell? ((⟨w.heap.size, 0, none⟩ : Addr).add j) = some u := by
  intro j u h
  have hj := (List.getElem?_eq_some_iff.1 h).1
  have h0 : j = 0 := by simpa using hj
  subst h0
  have := (Row.mk w [a] t).cell 0
  simpa [Addr.add] using this.trans h
theorem setCell_other (w : World) {b rb : Nat} {o : Nat} (h : b ≠ rb) (v : Value) : (w.setCell ⟨rb, o, none⟩ v).heap[b]? = w.heap[b]? := by
  by_cases hb : b < w.heap.size
  · exact (Only.setCell (F := (· = rb)) (p := ⟨rb, o, none⟩) (Only.refl _ w) (.inl rfl) v).block b hb h
  · have e : (w.setCell ⟨rb, o, none⟩ v).heap.size = w.heap.size := by simp
    rw [Array.getElem?_eq_none (by omega), Array.getElem?_eq_none (by omega)]
set_option maxRecDepth 100000 in
set_option maxHeartbeats 2000000 in
theorem change_any {w : World} {X : Nat → Prop} {rb : Nat} {m : M} {fv kv : Value} {us : List Value} {aa na la : Option Addr} {an ac nn nc ln lc : Nat} (h : Row w rb 33 (rC m fv (.slice na nn nc) kv (.slice aa an ac))) (hA : SlC w X 1 (.slice aa an ac) an us) (hone : ∀ u ∈ us, u.oneCell' = true) (hrb : ¬ X rb) (hn : an ≤ 1000000) :
    Calls Try.prog 54 #[.pointer (some ⟨rb, 0, none⟩), .slice la ln lc] w fun e w' => e = .returned (.tuple #[]) ∧ ∃ av, Row w' rb 33 (rC m fv (.slice la ln lc) kv av) ∧ w'.ownsRow w.heap.size 30 1 av (an + 1) (us ++ [.slice la ln lc]) ∧ Only (· = rb) w w' := by
  obtain ⟨i0, hi0, hz0, hz1, hz2⟩ := info_parts infoSl
  have c2 : w.cell? ⟨rb, 2, none⟩ = some (.slice na nn nc) := h.cell 2
  have c4 : w.cell? ⟨rb, 4, none⟩ = some (.slice aa an ac) := h.cell 4
  have f2 := h.free 2
  have f4 := h.free 4
  have H2 : Hid (Row (w.setCell ⟨rb, 2, none⟩ (.slice la ln lc)) rb 33 (rC m fv (.slice la ln lc) kv (.slice aa an ac))) := h.set 2 _
  have HA : Hid (SlC w X 1 (.slice aa an ac) an us) := hA
  have hnn : aa = none → an = 0 ∧ ac = 0 := by obtain ⟨a', c', q1, q2, q3, q4, q5, q6⟩ := hA; cases q1; exact q5
  have hus : us.length = an * 1 := by obtain ⟨a', c', q1, q2, q3, q4, q5, q6⟩ := hA; exact q4
  have c4' : (w.setCell ⟨rb, 2, none⟩ (.slice la ln lc)).cell? ⟨rb, 4, none⟩ = some (.slice aa an ac) := H2.out.cell 4
  go_enter Try.func54, Try.ntmps54
  obtain ⟨W, HW⟩ : ∃ W, Hid (W = w.setCell ⟨rb, 2, none⟩ (.slice la ln lc)) := ⟨_, rfl⟩
  have HOW : Hid (Only (· = rb) w W) := by rw [HW.out]; exact Only.setCell (F := (· = rb)) (p := ⟨rb, 2, none⟩) (Only.refl _ w) (.inl rfl) _
  have HSW : Hid (W.heap.size = w.heap.size) := by
    have q : W.heap.size = w.heap.size := by rw [HW.out]; simp
    exact q
  have HAW : Hid (SlC W X 1 (.slice aa an ac) an us) := HA.out.at_ HOW.out.size (fun b hb hl => HOW.out.block b hl (fun q => hrb (by rw [← q]; exact hb)))
  rw [← HW.out] at c4' H2
  have hWe : w.setCell ⟨rb, 2, none⟩ (.slice la ln lc) = W := HW.out.symm
  clear h hA
  go_wp2_with (at_builtin; refine wpList_append_any rfl (.const (.slice none 0 0)) _ 31 rfl W.heap.size 30 i0 (.slice none 0 0) 1 24 Try.underlying31 hi0 hz0 hz1 hz2 rfl (by decide) (.slice none 0 0) 0 [] rfl (World.ownsRow_nil _ _ _ _) aa an ac us rfl hnn hus (HAW.out.src (Below.refl _ _)) hone ?_ ?_ ?_ ?_)
  · unfold maxLen; omega
  · omega
  · exact Nat.le_refl _
  intro v3 w3 hown3 hgrow3
  have HB3 : Hid (Below W.heap.size W w3) := (Below.refl _ W).grown hgrow3 (Nat.le_refl _) (fun k hk => by cases hk)
  have HO3 : Hid (w3.ownsRow W.heap.size 30 1 v3 an us) := by
    have q := hown3
    first | exact q | simpa using q
  have hs3 := HB3.out.size
  clear hown3 hgrow3 hWe
  go_wp2_with (at_builtin; refine wpList_append_own_at _ rfl _ _ 31 rfl W.heap.size 30 i0 (.slice none 0 0) 1 24 Try.underlying31 hi0 hz0 hz1 hz2 rfl (by decide) v3 an us rfl (HO3.out.alloc _) ⟨w3.heap.size, 0, none⟩ 1 1 [.slice la ln lc] rfl rfl (cell1 _ _ _) (by intro u hu; rw [List.mem_singleton.1 hu]; rfl) ?_ ?_ ?_ ?_)
  · unfold maxLen; omega
  · omega
  · simp; omega
  intro v4 w4 hown4 hgrow4 _ _
  have HB4 : Hid (Below W.heap.size W w4) := (HB3.out.alloc hs3 _).grown hgrow4 (by simp; omega) (fun k hk => own_block' HO3.out k hk)
  have HR4 : Hid (Row w4 rb 33 (rC m fv (.slice la ln lc) kv (.slice aa an ac))) := H2.out.at_ (HB4.out.block _ H2.out.lt)
  have HO4 : Hid (w4.ownsRow W.heap.size 30 1 v4 (an + 1) (us ++ [.slice la ln lc])) := hown4
  obtain ⟨va, vc, hv4⟩ : ∃ va vc, v4 = .slice va (an + 1) vc := by
    rcases hown4.2 with ⟨q, q0⟩ | ⟨g, cap, cur, q, _⟩
    · omega
    · exact ⟨_, _, q⟩
  subst hv4
  have d4 : w4.cell? ⟨rb, 4, none⟩ = some (.slice aa an ac) := HR4.out.cell 4
  have g4 := HR4.out.free 4
  clear hown4 hgrow4 c2 c4 f2 f4 c4'
  go_wp2
  go_end0
  refine ⟨rfl, _, HR4.out.set 4 _, ?_, ?_⟩
  · rw [← HSW.out]
    refine own_stays HO4.out fun b hb => ?_
    have hlt := own_block' HO4.out b hb
    have hne : b ≠ rb := fun q => by have := H2.out.lt; omega
    exact setCell_other w4 hne _
  · exact Only.setCell (F := (· = rb)) (p := ⟨rb, 4, none⟩) (HOW.out.step (Only.of_below HB4.out)) (.inl rfl) _
end Go.Proofs.Ytedpiikdlpehjaa.Dsk
