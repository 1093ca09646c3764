/- The calls that are done: Remove, Rename, Create, SyncDir, New. -/
import Derived.Test.YtedpiikdlpehjaaDiskOps3
namespace Go.Proofs.Ytedpiikdlpehjaa.Dsk
open Go Go.RowKit Go.Maps
set_option linter.unusedSimpArgs false
set_option linter.unusedVariables false

section
variable {w : World} {F : Nat → Prop} {d : Nat} {m : M} {ad : List Nat} {dv : List Value} {nB kB : Nat} {sv : Value}
theorem DiskIn.remove_down (h : DiskIn w F d m ad dv nB kB sv) (ho : m.on = true) (hf : m.fuse = 0) (n : Nm) (hn : n.length ≤ maxLen) (i : Nat) (hl : look m.names n = some i) :
    Go.Calls Try.prog 27 #[.pointer (some ⟨d, 0, none⟩), .string (str n)] w fun e w' => e = .returned (.int .i64 15) ∧ DiskIn w' F d m.off ad dv nB kB sv ∧ Only F w w' := by
  have h1 := h.find_some ho n hn i hl
  have h2 := fun x y z => h.turn_off hf x y z
  generalize ad.getD i 0 = fb at h1
  obtain ⟨S, HS⟩ : ∃ S, Hid (S = str n) := ⟨_, rfl⟩
  rw [← HS.out] at h1 ⊢
  clear h ho hf hn hl
  go_enter Try.func27, Try.ntmps27
  go_wp2_with (first | (go_at_call 42; refine h1.mono ?_; rintro e w' ⟨rfl, rfl⟩) | (go_at_call 46; refine (h2 _ _ _ rfl rfl rfl).mono ?_; rintro e w1 ⟨rfl, h3, hO⟩))
  go_ret
  exact ⟨rfl, h3, hO⟩
theorem DiskIn.remove_ok (h : DiskIn w F d m ad dv nB kB sv) (ho : m.on = true) (hf : m.fuse ≠ 0) (hw : -1 ≤ m.fuse ∧ m.fuse ≤ 9223372036854775807) (hc : m.calls < 1099511627776) (hnl : m.names.length ≤ 1000) (hs : m.since.length ≤ 1099511627776) (n : Nm) (hn : n.length ≤ maxLen) (i : Nat) (hl : look m.names n = some i) :
    Go.Calls Try.prog 27 #[.pointer (some ⟨d, 0, none⟩), .string (str n)] w fun e w' => e = .returned (.int .i64 0) ∧ ∃ sv', DiskIn w' (fun k => F k ∨ sv'.ownBlock = some k) d (m.spent.turn ⟨n, [], none⟩) ad dv nB kB sv' ∧ (∀ k, sv'.ownBlock = some k → F k ∨ w.heap.size ≤ k) ∧ Only F w w' := by
  have h1 := h.find_some ho n hn i hl
  have h2 := h.turn_on hf hw hc ⟨n, [], none⟩ hn (Nat.zero_le _) hnl hs
  generalize ad.getD i 0 = fb at h1
  have e0 : str ([] : List UInt8) = ⟨#[]⟩ := rfl
  simp only [pv, e0] at h2
  obtain ⟨S, HS⟩ : ∃ S, Hid (S = str n) := ⟨_, rfl⟩
  rw [← HS.out] at h1 h2 ⊢
  clear h ho hf hn hl hw hc hnl hs e0
  go_enter Try.func27, Try.ntmps27
  go_wp2_with (first | (go_at_call 42; refine h1.mono ?_; rintro e w' ⟨rfl, rfl⟩) | (go_at_call 46; refine h2.mono ?_; rintro e w1 ⟨rfl, h3⟩))
  go_ret
  exact ⟨rfl, h3⟩
theorem DiskIn.rename_arg (h : DiskIn w F d m ad dv nB kB sv) (ho : m.on = true) (a b : Nm) (ha : a.length ≤ maxLen) (hb : b.length ≤ maxLen) (i : Nat) (hl : look m.names a = some i) (hnm : isNm b = false) :
    Go.Calls Try.prog 26 #[.pointer (some ⟨d, 0, none⟩), .string (str a), .string (str b)] w fun e w' => e = .returned (.int .i64 1) ∧ w = w' := by
  have h1 := h.find_some ho a ha i hl
  have h2 := isName_any b w hb
  rw [hnm] at h2
  generalize ad.getD i 0 = fb at h1
  obtain ⟨S, HS⟩ : ∃ S, Hid (S = str a) := ⟨_, rfl⟩
  obtain ⟨S', HS'⟩ : ∃ S, Hid (S = str b) := ⟨_, rfl⟩
  rw [← HS.out] at h1 ⊢
  rw [← HS'.out] at h2 ⊢
  clear h ho ha hb hl hnm
  go_enter Try.func26, Try.ntmps26
  go_wp2_with (first | (go_at_call 42; refine h1.mono ?_; rintro e w' ⟨rfl, rfl⟩) | (go_at_call 45; refine h2.mono ?_; rintro e w' ⟨rfl, rfl⟩))
  go_ret
  exact ⟨rfl, rfl⟩
theorem DiskIn.rename_same_down (h : DiskIn w F d m ad dv nB kB sv) (ho : m.on = true) (hf : m.fuse = 0) (a : Nm) (ha : a.length ≤ maxLen) (i : Nat) (hl : look m.names a = some i) (hnm : isNm a = true) :
    Go.Calls Try.prog 26 #[.pointer (some ⟨d, 0, none⟩), .string (str a), .string (str a)] w fun e w' => e = .returned (.int .i64 15) ∧ DiskIn w' F d m.off ad dv nB kB sv ∧ Only F w w' := by
  have h1 := h.find_some ho a ha i hl
  have h2 := isName_any a w ha
  rw [hnm] at h2
  have h4 := h.spend_off hf
  generalize ad.getD i 0 = fb at h1
  obtain ⟨S, HS⟩ : ∃ S, Hid (S = str a) := ⟨_, rfl⟩
  rw [← HS.out] at h1 h2 ⊢
  clear h ho ha hl hnm hf
  go_enter Try.func26, Try.ntmps26
  go_wp2_with (first | (go_at_call 42; refine h1.mono ?_; rintro e w' ⟨rfl, rfl⟩) | (go_at_call 45; refine h2.mono ?_; rintro e w' ⟨rfl, rfl⟩) | (go_at_call 47; refine h4.mono ?_; rintro e w1 ⟨rfl, h3, hO⟩))
  go_ret
  exact ⟨rfl, h3, hO⟩
theorem DiskIn.rename_same_ok (h : DiskIn w F d m ad dv nB kB sv) (ho : m.on = true) (hf : m.fuse ≠ 0) (hw : -1 ≤ m.fuse ∧ m.fuse ≤ 9223372036854775807) (hc : m.calls < 4611686018427387904) (a : Nm) (ha : a.length ≤ maxLen) (i : Nat) (hl : look m.names a = some i) (hnm : isNm a = true) :
    Go.Calls Try.prog 26 #[.pointer (some ⟨d, 0, none⟩), .string (str a), .string (str a)] w fun e w' => e = .returned (.int .i64 0) ∧ DiskIn w' F d m.spent ad dv nB kB sv ∧ Only F w w' := by
  have h1 := h.find_some ho a ha i hl
  have h2 := isName_any a w ha
  rw [hnm] at h2
  have h4 := h.spend_on hf hw hc
  generalize ad.getD i 0 = fb at h1
  obtain ⟨S, HS⟩ : ∃ S, Hid (S = str a) := ⟨_, rfl⟩
  rw [← HS.out] at h1 h2 ⊢
  clear h ho ha hl hnm hf hw hc
  go_enter Try.func26, Try.ntmps26
  go_wp2_with (first | (go_at_call 42; refine h1.mono ?_; rintro e w' ⟨rfl, rfl⟩) | (go_at_call 45; refine h2.mono ?_; rintro e w' ⟨rfl, rfl⟩) | (go_at_call 47; refine h4.mono ?_; rintro e w1 ⟨rfl, h3, hO⟩))
  go_ret
  exact ⟨rfl, h3, hO⟩
theorem str_toList (l : List UInt8) : (str l).toList = l := by rw [ByteArray.toList_eq, str_data]
theorem str_ne {a b : Nm} (h : a ≠ b) : ((str a).toList == (str b).toList) = false := by
  rw [str_toList, str_toList]
  exact beq_eq_false_iff_ne.2 h
theorem DiskIn.rename_down (h : DiskIn w F d m ad dv nB kB sv) (ho : m.on = true) (hf : m.fuse = 0) (a b : Nm) (hab : a ≠ b) (ha : a.length ≤ maxLen) (hb : b.length ≤ maxLen) (i : Nat) (hl : look m.names a = some i) (hnm : isNm b = true) :
    Go.Calls Try.prog 26 #[.pointer (some ⟨d, 0, none⟩), .string (str a), .string (str b)] w fun e w' => e = .returned (.int .i64 15) ∧ DiskIn w' F d m.off ad dv nB kB sv ∧ Only F w w' := by
  have h1 := h.find_some ho a ha i hl
  have h2 := isName_any b w hb
  rw [hnm] at h2
  have h4 := fun x y z => h.turn_off hf x y z
  have hq := str_ne hab
  generalize ad.getD i 0 = fb at h1
  obtain ⟨S, HS⟩ : ∃ S, Hid (S = str a) := ⟨_, rfl⟩
  obtain ⟨S', HS'⟩ : ∃ S, Hid (S = str b) := ⟨_, rfl⟩
  rw [← HS.out] at h1 hq ⊢
  rw [← HS'.out] at h2 hq ⊢
  clear h ho ha hb hl hnm hf hab
  go_enter Try.func26, Try.ntmps26
  go_wp2_with (first | (go_at_call 42; refine h1.mono ?_; rintro e w' ⟨rfl, rfl⟩) | (go_at_call 45; refine h2.mono ?_; rintro e w' ⟨rfl, rfl⟩) | (go_at_call 46; refine (h4 _ _ _ rfl rfl rfl).mono ?_; rintro e w1 ⟨rfl, h3, hO⟩))
  go_ret
  exact ⟨rfl, h3, hO⟩
theorem DiskIn.rename_ok (h : DiskIn w F d m ad dv nB kB sv) (ho : m.on = true) (hf : m.fuse ≠ 0) (hw : -1 ≤ m.fuse ∧ m.fuse ≤ 9223372036854775807) (hc : m.calls < 1099511627776) (hnl : m.names.length ≤ 1000) (hs : m.since.length ≤ 1099511627776) (a b : Nm) (hab : a ≠ b) (ha : a.length ≤ maxLen) (hb : b.length ≤ maxLen) (i : Nat) (hl : look m.names a = some i) (hnm : isNm b = true) :
    Go.Calls Try.prog 26 #[.pointer (some ⟨d, 0, none⟩), .string (str a), .string (str b)] w fun e w' => e = .returned (.int .i64 0) ∧ ∃ sv', DiskIn w' (fun k => F k ∨ sv'.ownBlock = some k) d (m.spent.turn ⟨a, b, some i⟩) ad dv nB kB sv' ∧ (∀ k, sv'.ownBlock = some k → F k ∨ w.heap.size ≤ k) ∧ Only F w w' := by
  have h1 := h.find_some ho a ha i hl
  have h2 := isName_any b w hb
  rw [hnm] at h2
  have h4 := h.turn_on hf hw hc ⟨a, b, some i⟩ ha hb hnl hs
  simp only [pv] at h4
  have hq := str_ne hab
  generalize ad.getD i 0 = fb at h1 h4
  obtain ⟨S, HS⟩ : ∃ S, Hid (S = str a) := ⟨_, rfl⟩
  obtain ⟨S', HS'⟩ : ∃ S, Hid (S = str b) := ⟨_, rfl⟩
  rw [← HS.out] at h1 hq h4 ⊢
  rw [← HS'.out] at h2 hq h4 ⊢
  clear h ho ha hb hl hnm hf hab hw hc hnl hs
  go_enter Try.func26, Try.ntmps26
  go_wp2_with (first | (go_at_call 42; refine h1.mono ?_; rintro e w' ⟨rfl, rfl⟩) | (go_at_call 45; refine h2.mono ?_; rintro e w' ⟨rfl, rfl⟩) | (go_at_call 46; refine h4.mono ?_; rintro e w1 ⟨rfl, h3⟩))
  go_ret
  exact ⟨rfl, h3⟩
theorem DiskIn.syncDir_down (h : DiskIn w F d m ad dv nB kB sv) (ho : m.on = true) (hf : m.fuse = 0) :
    Go.Calls Try.prog 24 #[.pointer (some ⟨d, 0, none⟩)] w fun e w' => e = .returned (.int .i64 15) ∧ DiskIn w' F d m.off ad dv nB kB sv ∧ Only F w w' := by
  have h1 := h.ready_on ho
  have h2 := h.spend_off hf
  clear h ho hf
  go_enter Try.func24, Try.ntmps24
  go_wp2_with (first | (go_at_call 36; refine h1.mono ?_; rintro e w' ⟨rfl, rfl⟩) | (go_at_call 47; refine h2.mono ?_; rintro e w1 ⟨rfl, h3, hO⟩))
  go_ret
  exact ⟨rfl, h3, hO⟩
theorem DiskIn.syncDir_ok (h : DiskIn w F d m ad dv nB kB sv) (ho : m.on = true) (hf : m.fuse ≠ 0) (hw : -1 ≤ m.fuse ∧ m.fuse ≤ 9223372036854775807) (hc : m.calls < 4611686018427387904) (hs : m.since.length ≤ 1099511627776) (hnm : ∀ c ∈ m.since, c.gone.length ≤ 32 ∧ c.name.length ≤ 32) (hl : ∀ j, (Dsk.settle m.kept (m.since.take j)).length ≤ 64) :
    Go.Calls Try.prog 24 #[.pointer (some ⟨d, 0, none⟩)] w fun e w' => e = .returned (.int .i64 0) ∧ DiskIn w' F d (m.spent.settled m.since.length) ad dv nB kB (.slice none 0 0) ∧ Only F w w' := by
  have h1 := h.ready_on ho
  have h2 := h.spend_on hf hw hc
  have HS : Hid (m.since.length ≤ 1099511627776 ∧ (∀ c ∈ m.since, c.gone.length ≤ 32 ∧ c.name.length ≤ 32) ∧ ∀ j, (Dsk.settle m.kept (m.since.take j)).length ≤ 64) := ⟨hs, hnm, hl⟩
  clear h ho hf hw hc hs hnm hl
  go_enter Try.func24, Try.ntmps24
  go_wp2_with (go_at_call 36; refine h1.mono ?_; rintro e w' ⟨rfl, rfl⟩)
  refine h2.mono ?_
  rintro e w1 ⟨rfl, h3, hO⟩
  have HO : Hid (Only F w w1) := hO
  have h5 := h3.settle m.since.length (Nat.le_refl _) HS.out.1 HS.out.2.1 HS.out.2.2
  obtain ⟨sa, sc, hsv⟩ : ∃ a c, sv = .slice a m.since.length c := by
    rcases h3.since.2 with ⟨q, q0⟩ | ⟨g, cap, cur, q, _⟩
    · have q1 : m.since.length = 0 := q0
      exact ⟨_, _, by rw [q, q1]⟩
    · exact ⟨_, _, q⟩
  subst hsv
  have hc7 := h3.c7
  obtain ⟨len, HL⟩ : ∃ x, Hid (x = m.since.length) := ⟨_, rfl⟩
  rw [← HL.out] at h5 hc7
  clear h3 hO h1 h2 HS
  go_wp2_with (go_at_call 48; refine h5.mono ?_; rintro e w2 ⟨rfl, h6, hO2⟩)
  go_ret
  exact ⟨rfl, by rw [← HL.out]; exact h6, HO.out.step hO2⟩
end
end Go.Proofs.Ytedpiikdlpehjaa.Dsk
