/- (table).turn. -/
import Derived.Test.YtedpiikdlpehjaaDiskNames
namespace Go.Proofs.Ytedpiikdlpehjaa.Dsk
open Go Go.RowKit Go.Maps
set_option linter.unusedSimpArgs false
set_option linter.unusedVariables false

theorem tturn_none (b : Nat) (gone name : Nm) (ad : List Nat) (t : Tbl) (w : World) (hT : TblAt w b ad t) (hg : gone.length ≤ maxLen) :
    Calls Try.prog 60 #[.map (some b), .agg #[.string (str gone), .string (str name), .pointer none]] w fun e w' => e = .returned (.tuple #[]) ∧ TblAt w' b ad (del t gone) ∧ Only (· = b) w w' := by
  have HT : Hid (TblAt w b ad t) := hT
  have HK : Hid (keyOf Try.prog 9 (.string (str gone)) = some (.string gone)) := key_str hg
  obtain ⟨S, HS⟩ : ∃ S, Hid (S = str gone) := ⟨_, rfl⟩
  obtain ⟨S', HS'⟩ : ∃ S, Hid (S = str name) := ⟨_, rfl⟩
  rw [← HS.out] at HK ⊢
  rw [← HS'.out]
  clear hT hg
  obtain ⟨W, HW⟩ : ∃ W, Hid (W = w.alloc (.cells #[.string S, .string S', .pointer none] 86)) := ⟨_, rfl⟩
  obtain ⟨g, HG⟩ : ∃ g, Hid (g = w.heap.size) := ⟨_, rfl⟩
  have HR : Hid (Row W g 86 [.string S, .string S', .pointer none]) := by rw [HW.out, HG.out]; exact Row.mk w [.string S, .string S', .pointer none] _
  have HTW : Hid (TblAt W b ad t) := by rw [HW.out]; exact HT.out.at_ (Below.heap_alloc _ _ _ HT.out.lt)
  have HOW : Hid (Only (· = b) w W) := by rw [HW.out]; exact (Only.refl _ w).alloc _
  go_enter Try.func60, Try.ntmps60
  go_wp2_with (at_delete; rw [← HW.out]; refine wpList_delete_own _ rfl _ _ 59 9 rfl 76 strKeyed Try.underlying59 elemR b _ _ rfl HTW.out _ _ rfl HK.out ?_)
  rw [← HG.out]
  intro w1 hown1 hturn1
  have hne : g ≠ b := by
    intro e
    have h1 := HT.out.lt
    have := HG.out
    omega
  have HR1 : Hid (Row w1 g 86 [.string S, .string S', .pointer none]) := HR.out.at_ (hturn1.grown.block g HR.out.lt (by simpa using hne))
  have HT1 : Hid (TblAt w1 b ad (del t gone)) := by
    rw [dat_del] at hown1
    exact owns_tight hown1
  have HO1 : Hid (Only (· = b) w w1) := HOW.out.grown hturn1.grown (fun k hk => .inl (by simpa using hk.symm))
  have hc2 : w1.cell? ⟨g, 2, none⟩ = some (.pointer none) := by rw [HR1.out.cell]; rfl
  clear hown1 hturn1
  go_wp2
  go_end0
  exact ⟨rfl, HT1.out, HO1.out⟩
theorem tturn_some (b : Nat) (gone name : Nm) (i : Nat) (ad : List Nat) (t : Tbl) (w : World) (hT : TblAt w b ad t) (hg : gone.length ≤ maxLen) (hn : name.length ≤ maxLen) (hl : t.length ≤ 1000) :
    Calls Try.prog 60 #[.map (some b), .agg #[.string (str gone), .string (str name), .pointer (some ⟨ad.getD i 0, 0, none⟩)]] w fun e w' => e = .returned (.tuple #[]) ∧ TblAt w' b ad (put (del t gone) name i) ∧ Only (· = b) w w' := by
  have HT : Hid (TblAt w b ad t) := hT
  have HK : Hid (keyOf Try.prog 9 (.string (str gone)) = some (.string gone)) := key_str hg
  have HK' : Hid (keyOf Try.prog 9 (.string (str name)) = some (.string name)) := key_str hn
  obtain ⟨S, HS⟩ : ∃ S, Hid (S = str gone) := ⟨_, rfl⟩
  obtain ⟨S', HS'⟩ : ∃ S, Hid (S = str name) := ⟨_, rfl⟩
  obtain ⟨fb, HF⟩ : ∃ f, Hid (f = ad.getD i 0) := ⟨_, rfl⟩
  rw [← HS.out] at HK ⊢
  rw [← HS'.out] at HK' ⊢
  rw [← HF.out]
  clear hT hg hn
  obtain ⟨W, HW⟩ : ∃ W, Hid (W = w.alloc (.cells #[.string S, .string S', .pointer (some ⟨fb, 0, none⟩)] 86)) := ⟨_, rfl⟩
  obtain ⟨g, HG⟩ : ∃ g, Hid (g = w.heap.size) := ⟨_, rfl⟩
  have HR : Hid (Row W g 86 [.string S, .string S', .pointer (some ⟨fb, 0, none⟩)]) := by rw [HW.out, HG.out]; exact Row.mk w [.string S, .string S', .pointer (some ⟨fb, 0, none⟩)] _
  have HTW : Hid (TblAt W b ad t) := by rw [HW.out]; exact HT.out.at_ (Below.heap_alloc _ _ _ HT.out.lt)
  have HOW : Hid (Only (· = b) w W) := by rw [HW.out]; exact (Only.refl _ w).alloc _
  go_enter Try.func60, Try.ntmps60
  go_wp2_with (at_delete; rw [← HW.out]; refine wpList_delete_own _ rfl _ _ 59 9 rfl 76 strKeyed Try.underlying59 elemR b _ _ rfl HTW.out _ _ rfl HK.out ?_)
  rw [← HG.out]
  intro w1 hown1 hturn1
  have hne : g ≠ b := by
    intro e
    have h1 := HT.out.lt
    have := HG.out
    omega
  have HR1 : Hid (Row w1 g 86 [.string S, .string S', .pointer (some ⟨fb, 0, none⟩)]) := HR.out.at_ (hturn1.grown.block g HR.out.lt (by simpa using hne))
  have HT1 : Hid (TblAt w1 b ad (del t gone)) := by
    rw [dat_del] at hown1
    exact owns_tight hown1
  have HO1 : Hid (Only (· = b) w w1) := HOW.out.grown hturn1.grown (fun k hk => .inl (by simpa using hk.symm))
  have hc1 : w1.cell? ⟨g, 1, none⟩ = some (.string S') := by rw [HR1.out.cell]; rfl
  have hc2 : w1.cell? ⟨g, 2, none⟩ = some (.pointer (some ⟨fb, 0, none⟩)) := by rw [HR1.out.cell]; rfl
  have hlen : (del t gone).length < maxLen := by have := len_del t gone; unfold maxLen; omega
  clear hown1 hturn1
  go_wp2_with (at_mapUpdate; refine wpList_mapUpdate_own _ rfl _ _ _ 59 rfl 9 76 strKeyed Try.underlying59 elemR b _ _ rfl HT1.out hlen _ _ _ rfl rfl HK'.out (pd ad (some i)) [] (by rw [HF.out]; rfl) ?_)
  intro w2 hown2 hgrow2
  have HT2 : Hid (TblAt w2 b ad (put (del t gone) name i)) := by
    rw [dat_put] at hown2
    exact owns_tight hown2
  have HO2 : Hid (Only (· = b) w w2) := HO1.out.grown hgrow2 (fun k hk => .inl (by simpa using hk.symm))
  clear hown2 hgrow2 hc1 hc2
  go_wp2
  go_end0
  exact ⟨rfl, HT2.out, HO2.out⟩
theorem tturn_any (b : Nat) (c : Chg) (ad : List Nat) (t : Tbl) (w : World) (hT : TblAt w b ad t) (hg : c.gone.length ≤ maxLen) (hn : c.name.length ≤ maxLen) (hl : t.length ≤ 1000) :
    Calls Try.prog 60 #[.map (some b), .agg #[.string (str c.gone), .string (str c.name), pv ad c.to]] w fun e w' => e = .returned (.tuple #[]) ∧ TblAt w' b ad (c.app t) ∧ Only (· = b) w w' := by
  obtain ⟨gone, name, to⟩ := c
  cases to with
  | none => exact tturn_none b gone name ad t w hT hg
  | some i => exact tturn_some b gone name i ad t w hT hg hn hl
end Go.Proofs.Ytedpiikdlpehjaa.Dsk
