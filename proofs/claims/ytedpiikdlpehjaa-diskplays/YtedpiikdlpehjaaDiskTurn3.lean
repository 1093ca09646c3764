/- (*Disk).turn, where the power stays on. -/
import Derived.Test.YtedpiikdlpehjaaDiskTurn2
import Derived.Deep.CutRange
import Derived.Deep.RegionHeld3
import Derived.Deep.AppendLies
namespace Go.Proofs.Ytedpiikdlpehjaa.Dsk
open Go Go.RowKit Go.Maps
set_option linter.unusedSimpArgs false
set_option linter.unusedVariables false

theorem grown_drew {w w' : World} {r : Option Nat} (h : w.drew.grownBy w' r) : w.grownBy w' r := ⟨h.os, h.tape, h.output, h.size, h.block⟩
theorem pv_one (ad : List Nat) (o : Option Nat) : (pv ad o).oneCell' = true := by cases o <;> rfl
theorem own_stays {w w' : World} {base : Nat} {e : TypeId} {size : Nat} {v : Value} {n : Nat} {xs : List Value} (h : w.ownsRow base e size v n xs) (hb : ∀ b, v.ownBlock = some b → w'.heap[b]? = w.heap[b]?) : w'.ownsRow base e size v n xs := by
  refine ⟨h.1, ?_⟩
  rcases h.2 with q | ⟨g, cap, cur, rfl, h0, hg, r⟩
  · exact .inl q
  · exact .inr ⟨g, cap, cur, rfl, h0, (hb g rfl).trans hg, r⟩
theorem own_slice {w : World} {base : Nat} {e : TypeId} {size : Nat} {v : Value} {n : Nat} {xs : List Value} (h : w.ownsRow base e size v n xs) : ∃ a l c, v = .slice a l c := by
  rcases h.2 with ⟨rfl, _⟩ | ⟨g, cap, cur, rfl, _⟩
  · exact ⟨_, _, _, rfl⟩
  · exact ⟨_, _, _, rfl⟩
section
variable {w : World} {F : Nat → Prop} {d : Nat} {m : M} {n0 : Tbl} {ad : List Nat} {dv : List Value} {nB kB : Nat} {sv : Value}
theorem DiskIn.since_ne (h : DiskIn w F d m ad dv nB kB sv) : some d ≠ sv.ownBlock := fun q => by
  obtain ⟨cur, hc⟩ := own_row_at h.since q.symm
  have h1 : Row w d 86 cur.toList := by unfold Row; simpa using hc
  exact absurd (h1.inj h.cell).1 (by decide)
theorem DiskIn.turned {w0 w3 : World} {o : Obj} {n g cap : Nat} (h : DiskIn w F d { m.spent with names := n0 } ad dv nB kB sv) (hO : Only F w0 w) (hlt : ∀ k, F k → k < w0.heap.size) (c : Chg)
    (hown : w3.ownsRow 0 86 3 (.slice (some ⟨g, 0, none⟩) (m.since.length + 1) cap) (m.since.length + 1) (m.since.flatMap (chgC ad) ++ chgC ad c)) (hgrow : (w.alloc o).grownBy w3 sv.ownBlock) (hat : sv.ownBlock = some g ∨ g = n) (hn : n = (w.alloc o).heap.size) :
    DiskIn (w3.setCell ⟨d, 7, none⟩ (.slice (some ⟨g, 0, none⟩) (m.since.length + 1) cap)) (fun k => F k ∨ Value.ownBlock (.slice (some ⟨g, 0, none⟩) (m.since.length + 1) cap) = some k) d { m.spent with names := n0, since := m.since ++ [c] } ad dv nB kB (.slice (some ⟨g, 0, none⟩) (m.since.length + 1) cap) ∧
      (∀ k, Value.ownBlock (.slice (some ⟨g, 0, none⟩) (m.since.length + 1) cap) = some k → F k ∨ w0.heap.size ≤ k) ∧ Only F w0 (w3.setCell ⟨d, 7, none⟩ (.slice (some ⟨g, 0, none⟩) (m.since.length + 1) cap)) := by
  have hO3 : Only F w0 w3 := (hO.alloc o).grown hgrow fun k hk => .inl (h.fs k hk)
  have hd : w3.heap[d]? = w.heap[d]? := (hgrow.block d (Nat.lt_of_lt_of_le h.cell.lt (by simp)) h.since_ne).trans (Below.heap_alloc w _ _ h.cell.lt)
  have hg3 : g < w3.heap.size := own_block_lt hown rfl
  have hgd : g ≠ d := fun e => by
    obtain ⟨cur, hc⟩ := own_row_at hown rfl
    have h1 : Row w3 d 86 cur.toList := by unfold Row; rw [← e]; simpa using hc
    exact absurd (h1.inj (h.cell.at_ hd)).1 (by decide)
  refine ⟨?_, fun k hk => ?_, hO3.setCell (.inl h.fd) _⟩
  · refine h.grows (m' := { m.spent with names := n0, since := m.since ++ [c] }) ?_ (fun k hk h1 h2 => ?_) ?_ ?_ rfl rfl rfl
    · have h1 : w.heap.size ≤ w3.heap.size := Nat.le_trans (by simp) hgrow.size
      simpa [World.setCell] using h1
    · rw [Below.heap_setCell _ _ _ _ h1]
      exact (hgrow.block k (Nat.lt_of_lt_of_le (h.lt k hk) (by simp)) (fun e => h2 e.symm)).trans (Below.heap_alloc w _ _ (h.lt k hk))
    · exact (h.cell.at_ hd).set 7 _
    · have e : (m.since ++ [c]).flatMap (chgC ad) = m.since.flatMap (chgC ad) ++ chgC ad c := by simp
      show World.ownsRow _ 0 _ 3 _ (m.since ++ [c]).length ((m.since ++ [c]).flatMap (chgC ad))
      rw [e, List.length_append]
      refine own_stays hown fun b hb => Below.heap_setCell _ _ _ _ ?_
      simp [Value.ownBlock] at hb
      show b ≠ d
      omega
  · simp [Value.ownBlock] at hk
    subst hk
    rcases hat with q | q
    · exact .inl (h.fs _ q)
    · right
      have := hO.size
      rw [q, hn]
      simp
      omega
set_option maxHeartbeats 1000000 in
theorem DiskIn.turn_on (h : DiskIn w F d m ad dv nB kB sv) (hf : m.fuse ≠ 0) (hw : -1 ≤ m.fuse ∧ m.fuse ≤ 9223372036854775807) (hc : m.calls < 1099511627776) (c : Chg) (hg : c.gone.length ≤ maxLen) (hn : c.name.length ≤ maxLen) (hl : m.names.length ≤ 1000) (hs : m.since.length ≤ 1099511627776) :
    Go.Calls Try.prog 46 #[.pointer (some ⟨d, 0, none⟩), .agg #[.string (str c.gone), .string (str c.name), pv ad c.to]] w fun e w' => e = .returned (.int .i64 0) ∧ ∃ sv', DiskIn w' (fun k => F k ∨ sv'.ownBlock = some k) d (m.spent.turn c) ad dv nB kB sv' ∧ (∀ k, sv'.ownBlock = some k → F k ∨ w.heap.size ≤ k) ∧ Only F w w' := by
  have HB : Hid (Below w.heap.size w (w.alloc (.cells #[.string (str c.gone), .string (str c.name), pv ad c.to] 86))) := (Below.refl _ w).alloc (Nat.le_refl _) _
  have H1 : Hid (DiskIn (w.alloc (.cells #[.string (str c.gone), .string (str c.name), pv ad c.to] 86)) F d m ad dv nB kB sv) := h.at_ HB.out.size fun k hk => HB.out.block k (h.lt k hk)
  obtain ⟨g, HG⟩ : ∃ g, Hid (g = w.heap.size) := ⟨_, rfl⟩
  have HR1 : Hid (Row (w.alloc (.cells #[.string (str c.gone), .string (str c.name), pv ad c.to] 86)) g 86 [.string (str c.gone), .string (str c.name), pv ad c.to]) := by rw [HG.out]; exact Row.mk w [.string (str c.gone), .string (str c.name), pv ad c.to] _
  have hnF : ¬ F g := fun q => by have := h.lt g q; have := HG.out; omega
  have HNF : Hid (¬ F g) := hnF
  have HLT : Hid (∀ k, F k → k < w.heap.size) := h.lt
  have HSP : Hid (m.fuse ≠ 0 ∧ (-1 ≤ m.fuse ∧ m.fuse ≤ 9223372036854775807) ∧ m.calls < 4611686018427387904) := ⟨hf, hw, by omega⟩
  have hP := pv_one ad c.to
  have HT : Hid (c.gone.length ≤ maxLen ∧ c.name.length ≤ maxLen ∧ m.names.length ≤ 1000) := ⟨hg, hn, hl⟩
  have HS : Hid (m.since.length ≤ 1099511627776) := hs
  have HD : Hid (d ≠ nB) := h.names_ne
  have HKB : Hid (kB ≠ nB) := h.nk.symm
  have HFN : Hid (F nB) := h.fn
  obtain ⟨i0, hi, hz0, hz1, hz2⟩ := info_parts infoChg
  clear h hf hw hc hg hn hl hs hnF
  go_enter Try.func46, Try.ntmps46
  go_wp2_with (go_at_call 47; refine (H1.out.spend_on HSP.out.1 HSP.out.2.1 HSP.out.2.2).mono ?_; rintro e w1 ⟨rfl, h2, hO2⟩)
  rw [← HG.out]
  have H2 : Hid (DiskIn w1 F d m.spent ad dv nB kB sv) := h2
  have HO1 : Hid (Only F w w1) := (Only.of_below HB.out).step hO2
  have HR2 : Hid (Row w1 g 86 [.string (str c.gone), .string (str c.name), pv ad c.to]) := HR1.out.at_ (hO2.block g HR1.out.lt HNF.out)
  have hc5 := h2.c5
  have hb0 : w1.cell? ⟨g, 0, none⟩ = some (.string (str c.gone)) := by rw [HR2.out.cell]; rfl
  have hb1 : w1.cell? ⟨g, 1, none⟩ = some (.string (str c.name)) := by rw [HR2.out.cell]; rfl
  have hb2 : w1.cell? ⟨g, 2, none⟩ = some (pv ad c.to) := by rw [HR2.out.cell]; rfl
  clear h2 hO2 H1 HR1 HSP HB
  go_region_held3 (fun w' => w'.cell? ⟨d, 5, none⟩ = some (.map (some nB)) ∧ w'.cell? ⟨g, 0, none⟩ = some (.string (str c.gone)) ∧ w'.cell? ⟨g, 1, none⟩ = some (.string (str c.name)) ∧ w'.cell? ⟨g, 2, none⟩ = some (pv ad c.to)) (go_keep) (first | (go_at_call 60; refine (tturn_any nB c ad m.names _ (by exact H2.out.names) HT.out.1 HT.out.2.1 HT.out.2.2).mono ?_; rintro e w2 ⟨rfl, hT2, hO2⟩; have k5 := (World.cell?_of_block (w := w1) (w' := w2) (a := ⟨d, 5, none⟩) (hO2.block d H2.out.cell.lt HD.out)).trans hc5; have kg := fun i => World.cell?_of_block (w := w1) (w' := w2) (a := ⟨g, i, none⟩) (hO2.block g HR2.out.lt (fun q => HNF.out (q ▸ HFN.out))); have k0 := (kg 0).trans hb0; have k1 := (kg 1).trans hb1; have k2 := (kg 2).trans hb2; clear kg))
  have H3 : Hid (DiskIn w2 F d { m.spent with names := c.app m.names } ad dv nB kB sv) := by
    refine H2.out.tables hO2.size (fun k hk h1 h2 => hO2.block k (H2.out.lt k hk) h1) hT2 ?_ rfl rfl rfl
    exact H2.out.kept.at_ (hO2.block kB (H2.out.lt _ H2.out.fk) HKB.out)
  have HR3 : Hid (Row w2 g 86 [.string (str c.gone), .string (str c.name), pv ad c.to]) := HR2.out.at_ (hO2.block g HR2.out.lt (fun q => HNF.out (q ▸ HFN.out)))
  have HO3 : Hid (Only F w w2) := HO1.out.drew.trans hO2 fun i (hi : i = nB) => .inl (hi ▸ HFN.out)
  clear hc5 hb0 hb1 hb2 hT2 hO2 H2 HR2 HO1 k5 k0 k1 k2
  have hc7 := H3.out.c7
  have hf7 := H3.out.cell.free 7
  have hb0 : w2.cell? ⟨g, 0, none⟩ = some (.string (str c.gone)) := by rw [HR3.out.cell]; rfl
  have hb1 : w2.cell? ⟨g, 1, none⟩ = some (.string (str c.name)) := by rw [HR3.out.cell]; rfl
  have hb2 : w2.cell? ⟨g, 2, none⟩ = some (pv ad c.to) := by rw [HR3.out.cell]; rfl
  go_wp2_with fail
  have HOWN : Hid (∀ o, (w2.alloc o).ownsRow 0 86 3 sv m.since.length (m.since.flatMap (chgC ad))) := fun o => own_stays H3.out.since (fun b hb => Below.heap_alloc _ _ _ (own_block_lt H3.out.since hb))
  have HDL : Hid (d < w2.heap.size) := H3.out.cell.lt
  have HSN : Hid (some d ≠ sv.ownBlock) := H3.out.since_ne
  have HR7 : Hid (Row w2 d 62 (dC { m.spent with names := c.app m.names } nB kB sv)) := H3.out.cell
  have HONE : Hid (∀ u ∈ [Value.string (str c.gone), .string (str c.name), pv ad c.to], u.oneCell' = true) := by
    intro u hu
    simp only [List.mem_cons, List.not_mem_nil, or_false] at hu
    rcases hu with rfl | rfl | rfl
    · rfl
    · rfl
    · exact hP
  have hc7a : (w2.alloc (.cells #[.string (str c.gone), .string (str c.name), pv ad c.to] 86)).cell? ⟨d, 7, none⟩ = some sv := (World.cell?_of_block (w := w2) (a := ⟨d, 7, none⟩) (Below.heap_alloc w2 _ _ HDL.out)).trans hc7
  go_region_law (refine step_append_lies _ rfl (.tmp 21) (.tmp 23) 60 rfl 0 86 i0 _ 3 40 Try.underlying60 hi hz0 hz1 hz2 rfl (by decide) sv m.since.length (m.since.flatMap (chgC ad)) (by simp [Act.eval, Act.put]) (by exact HOWN.out _) ⟨w2.heap.size, 0, none⟩ 1 1 [.string (str c.gone), .string (str c.name), pv ad c.to] (by simp [Act.eval, Act.put]) rfl (by exact news3 w2 _ _ _ _) HONE.out (by decide) (by have := HS.out; unfold maxLen; omega) (by have := HS.out; omega) (Nat.zero_le _) _ rfl ?_; intro sg scap w3 hown3 hgrow3 hat3 hlt3; have hr3 : Row w3 d 62 (dC { m.spent with names := c.app m.names } nB kB sv) := HR7.out.at_ ((hgrow3.block d (Nat.lt_of_lt_of_le HDL.out (by simp)) HSN.out).trans (Below.heap_alloc w2 _ _ HDL.out)); have hc3 : w3.cell? ⟨d, 7, none⟩ = some sv := hr3.cell 7; have hf3 := hr3.free 7)
  all_goals (
    have HFIN := H3.out.turned HO3.out HLT.out c hown3 (grown_drew hgrow3) hat3 rfl
    clear hown3 hgrow3 hat3 hr3 hc3 hf3 hc7a
    go_wp2
    go_ret
    exact ⟨rfl, _, HFIN⟩)
end
end Go.Proofs.Ytedpiikdlpehjaa.Dsk
