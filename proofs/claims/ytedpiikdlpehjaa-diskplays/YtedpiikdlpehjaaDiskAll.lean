/- The calls of a disk: each as the plain function says. -/
import Derived.Test.YtedpiikdlpehjaaDiskPure
namespace Go.Proofs.Ytedpiikdlpehjaa.Dsk
open Go Go.RowKit Go.Maps
set_option linter.unusedSimpArgs false
set_option linter.unusedVariables false

theorem Post.same {F : Nat → Prop} {d : Nat} {w : World} {m : M} (h : DiskAt w F d m) : Post F d w w m := ⟨F, h, fun k hk => .inl hk, Only.refl F w⟩
theorem Post.below {F : Nat → Prop} {d : Nat} {w w' : World} {m : M} (h : DiskAt w F d m) (hb : Below w.heap.size w w') : Post F d w w' m := ⟨F, h.below hb, fun k hk => .inl hk, Only.of_below hb⟩
section
variable {w : World} {F : Nat → Prop} {d : Nat} {m : M}
theorem Post.keep {ad : List Nat} {dv : List Value} {nB kB : Nat} {sv : Value} {w' : World} {m' : M} (hW : Wf m') (h : DiskIn w' F d m' ad dv nB kB sv) (hO : Only F w w') : Post F d w w' m' := ⟨F, ⟨hW, _, _, _, _, _, h⟩, fun k hk => .inl hk, hO⟩
theorem DiskAt.create (h : DiskAt w F d m) (hc : m.calls < 1099511627776) (n : Nm) (hn : n.length ≤ maxLen) : Calls Try.prog 20 #[.pointer (some ⟨d, 0, none⟩), .string (str n)] w fun e w' => e = .returned (.int .i64 (m.create n).2) ∧ Post F d w w' (m.create n).1 := by
  have hW := wf_create h.1 n
  obtain ⟨hWf, ad, dv, nB, kB, sv, hD⟩ := id h
  unfold M.create at hW ⊢
  by_cases h1 : m.on = false
  · rw [if_pos h1]
    exact (hD.create_off h1 _).mono fun e w' ⟨he, hw⟩ => by subst hw; exact ⟨he, Post.same h⟩
  rw [if_neg h1] at hW ⊢
  have ho : m.on = true := by simpa using h1
  by_cases h2 : isNm n = false
  · rw [if_pos h2]
    exact (hD.create_arg ho n hn h2).mono fun e w' ⟨he, hw⟩ => by subst hw; exact ⟨he, Post.same h⟩
  rw [if_neg h2] at hW ⊢
  have hnm : isNm n = true := by simpa using h2
  by_cases h3 : look m.names n = none ∧ m.names.length = 64
  · rw [if_pos h3]
    exact (hD.create_many ho n hn hnm h3.1 h3.2).mono fun e w' ⟨he, hw⟩ => by subst hw; exact ⟨he, Post.same h⟩
  rw [if_neg h3] at hW ⊢
  unfold M.does at hW ⊢
  by_cases h4 : m.fuse = 0
  · rw [if_pos h4] at hW ⊢
    exact (hD.create_down ho h4 n hn hnm h3).mono fun e w' ⟨he, hD', hO⟩ => ⟨he, Post.keep hW hD' hO⟩
  rw [if_neg h4] at hW ⊢
  exact (hD.create_ok hWf ho h4 hc n hn hnm h3).mono fun e w' ⟨he, b, sv', hD', hF, hO⟩ => ⟨he, _, ⟨hW, _, _, _, _, _, hD'⟩, hF, hO⟩
theorem DiskAt.append (h : DiskAt w F d m) (hc : m.calls < 1099511627776) (n : Nm) (hn : n.length ≤ maxLen) (a : Option Addr) (len cap : Nat) (bs : List UInt8) (hS : Bys w a len bs) (hl : len ≤ 140737488355328) (hsrc : ∀ b off, a = some ⟨b, off, none⟩ → 0 < len → ¬ F b) :
    Calls Try.prog 21 #[.pointer (some ⟨d, 0, none⟩), .string (str n), .slice a len cap] w fun e w' => e = .returned (.int .i64 (m.append n bs).2) ∧ Post F d w w' (m.append n bs).1 := by
  have hW := wf_append h.1 n bs
  obtain ⟨hWf, ad, dv, nB, kB, sv, hD⟩ := id h
  have hb := used_le hWf
  have hlen := hS.1
  unfold M.append at hW ⊢
  by_cases h1 : m.on = false
  · rw [if_pos h1]
    exact (hD.append_off h1 _ _).mono fun e w' ⟨he, hw⟩ => by subst hw; exact ⟨he, Post.same h⟩
  rw [if_neg h1] at hW ⊢
  have ho : m.on = true := by simpa using h1
  cases hq : look m.names n with
  | none => exact (hD.append_none ho n hn hq _).mono fun e w' ⟨he, hw⟩ => by subst hw; exact ⟨he, Post.same h⟩
  | some i =>
    rw [hq] at hW
    simp only at hW ⊢
    have hi := hWf.okN.less _ (look_mem hq)
    by_cases h2 : m.room < m.used + bs.length
    · rw [if_pos h2]
      exact (hD.append_full ho n hn i hq hWf.okN (by omega) hWf.room a len cap hl (by rw [hlen]; exact h2)).mono fun e w' ⟨he, hB⟩ => ⟨he, Post.below h hB⟩
    rw [if_neg h2] at hW ⊢
    unfold M.does at hW ⊢
    by_cases h4 : m.fuse = 0
    · rw [if_pos h4] at hW ⊢
      exact (hD.append_down ho h4 n hn i hq hWf.okN (by omega) hWf.room a len cap (by omega)).mono fun e w' ⟨he, hD', hO⟩ => ⟨he, Post.keep hW hD' hO⟩
    rw [if_neg h4] at hW ⊢
    refine (hD.append_ok ho h4 hWf.fuse (by omega) n hn i hq hi hWf.okN (by omega) hWf.room (Nat.le_trans (hWf.files i hi).2 hWf.room) a len cap bs hS hsrc (by omega)).mono fun e w' ⟨he, v', hD', hF, hO⟩ => ⟨he, _, ⟨hW, _, _, _, _, _, hD'⟩, ?_, hO⟩
    rintro k (q | q)
    · exact .inl q
    · exact hF k q
theorem DiskAt.sync (h : DiskAt w F d m) (hc : m.calls < 1099511627776) (n : Nm) (hn : n.length ≤ maxLen) : Calls Try.prog 22 #[.pointer (some ⟨d, 0, none⟩), .string (str n)] w fun e w' => e = .returned (.int .i64 (m.sync n).2) ∧ Post F d w w' (m.sync n).1 := by
  have hW := wf_sync h.1 n
  obtain ⟨hWf, ad, dv, nB, kB, sv, hD⟩ := id h
  unfold M.sync at hW ⊢
  by_cases h1 : m.on = false
  · rw [if_pos h1]
    exact (hD.sync_off h1 _).mono fun e w' ⟨he, hw⟩ => by subst hw; exact ⟨he, Post.same h⟩
  rw [if_neg h1] at hW ⊢
  have ho : m.on = true := by simpa using h1
  cases hq : look m.names n with
  | none => exact (hD.sync_none ho n hn hq).mono fun e w' ⟨he, hw⟩ => by subst hw; exact ⟨he, Post.same h⟩
  | some i =>
    rw [hq] at hW
    simp only at hW ⊢
    have hi := hWf.okN.less _ (look_mem hq)
    unfold M.does at hW ⊢
    by_cases h4 : m.fuse = 0
    · rw [if_pos h4] at hW ⊢
      exact (hD.sync_down ho h4 n hn i hq).mono fun e w' ⟨he, hD', hO⟩ => ⟨he, Post.keep hW hD' hO⟩
    rw [if_neg h4] at hW ⊢
    exact (hD.sync_ok ho h4 hWf.fuse (by omega) n hn i hq hi).mono fun e w' ⟨he, hD', hO⟩ => ⟨he, Post.keep hW hD' hO⟩
theorem DiskAt.rename (h : DiskAt w F d m) (hc : m.calls < 1099511627776) (a b : Nm) (ha : a.length ≤ maxLen) (hb : b.length ≤ maxLen) : Calls Try.prog 26 #[.pointer (some ⟨d, 0, none⟩), .string (str a), .string (str b)] w fun e w' => e = .returned (.int .i64 (m.rename a b).2) ∧ Post F d w w' (m.rename a b).1 := by
  have hW := wf_rename h.1 a b
  obtain ⟨hWf, ad, dv, nB, kB, sv, hD⟩ := id h
  unfold M.rename at hW ⊢
  by_cases h1 : m.on = false
  · rw [if_pos h1]
    exact (hD.rename_off h1 _ _).mono fun e w' ⟨he, hw⟩ => by subst hw; exact ⟨he, Post.same h⟩
  rw [if_neg h1] at hW ⊢
  have ho : m.on = true := by simpa using h1
  cases hq : look m.names a with
  | none => exact (hD.rename_none ho a ha hq _).mono fun e w' ⟨he, hw⟩ => by subst hw; exact ⟨he, Post.same h⟩
  | some i =>
    rw [hq] at hW
    simp only at hW ⊢
    by_cases h2 : isNm b = false
    · rw [if_pos h2]
      exact (hD.rename_arg ho a b ha hb i hq h2).mono fun e w' ⟨he, hw⟩ => by subst hw; exact ⟨he, Post.same h⟩
    rw [if_neg h2] at hW ⊢
    have hnm : isNm b = true := by simpa using h2
    have hsn := Nat.le_trans hWf.sinceN (Nat.le_of_lt hc)
    by_cases h3 : a = b
    · subst h3
      rw [if_pos rfl] at hW ⊢
      unfold M.does at hW ⊢
      by_cases h4 : m.fuse = 0
      · rw [if_pos h4] at hW ⊢
        exact (hD.rename_same_down ho h4 a ha i hq hnm).mono fun e w' ⟨he, hD', hO⟩ => ⟨he, Post.keep hW hD' hO⟩
      rw [if_neg h4] at hW ⊢
      exact (hD.rename_same_ok ho h4 hWf.fuse (by omega) a ha i hq hnm).mono fun e w' ⟨he, hD', hO⟩ => ⟨he, Post.keep hW hD' hO⟩
    rw [if_neg h3] at hW ⊢
    unfold M.does at hW ⊢
    by_cases h4 : m.fuse = 0
    · rw [if_pos h4] at hW ⊢
      exact (hD.rename_down ho h4 a b h3 ha hb i hq hnm).mono fun e w' ⟨he, hD', hO⟩ => ⟨he, Post.keep hW hD' hO⟩
    rw [if_neg h4] at hW ⊢
    refine (hD.rename_ok ho h4 hWf.fuse hc (Nat.le_trans hWf.fewN (by decide)) hsn a b h3 ha hb i hq hnm).mono fun e w' ⟨he, sv', hD', hF, hO⟩ => ⟨he, _, ⟨hW, _, _, _, _, _, hD'⟩, ?_, hO⟩
    rintro k (q | q)
    · exact .inl q
    · exact hF k q
theorem DiskAt.remove (h : DiskAt w F d m) (hc : m.calls < 1099511627776) (n : Nm) (hn : n.length ≤ maxLen) : Calls Try.prog 27 #[.pointer (some ⟨d, 0, none⟩), .string (str n)] w fun e w' => e = .returned (.int .i64 (m.remove n).2) ∧ Post F d w w' (m.remove n).1 := by
  have hW := wf_remove h.1 n
  obtain ⟨hWf, ad, dv, nB, kB, sv, hD⟩ := id h
  unfold M.remove at hW ⊢
  by_cases h1 : m.on = false
  · rw [if_pos h1]
    exact (hD.remove_off h1 _).mono fun e w' ⟨he, hw⟩ => by subst hw; exact ⟨he, Post.same h⟩
  rw [if_neg h1] at hW ⊢
  have ho : m.on = true := by simpa using h1
  cases hq : look m.names n with
  | none => exact (hD.remove_none ho n hn hq).mono fun e w' ⟨he, hw⟩ => by subst hw; exact ⟨he, Post.same h⟩
  | some i =>
    rw [hq] at hW
    simp only at hW ⊢
    have hsn := Nat.le_trans hWf.sinceN (Nat.le_of_lt hc)
    unfold M.does at hW ⊢
    by_cases h4 : m.fuse = 0
    · rw [if_pos h4] at hW ⊢
      exact (hD.remove_down ho h4 n hn i hq).mono fun e w' ⟨he, hD', hO⟩ => ⟨he, Post.keep hW hD' hO⟩
    rw [if_neg h4] at hW ⊢
    refine (hD.remove_ok ho h4 hWf.fuse hc (Nat.le_trans hWf.fewN (by decide)) hsn n hn i hq).mono fun e w' ⟨he, sv', hD', hF, hO⟩ => ⟨he, _, ⟨hW, _, _, _, _, _, hD'⟩, ?_, hO⟩
    rintro k (q | q)
    · exact .inl q
    · exact hF k q
theorem DiskAt.syncDir (h : DiskAt w F d m) (hc : m.calls < 1099511627776) : Calls Try.prog 24 #[.pointer (some ⟨d, 0, none⟩)] w fun e w' => e = .returned (.int .i64 m.syncDir.2) ∧ Post F d w w' m.syncDir.1 := by
  have hW := wf_syncDir h.1
  obtain ⟨hWf, ad, dv, nB, kB, sv, hD⟩ := id h
  unfold M.syncDir at hW ⊢
  by_cases h1 : m.on = false
  · rw [if_pos h1]
    exact (hD.syncDir_off h1).mono fun e w' ⟨he, hw⟩ => by subst hw; exact ⟨he, Post.same h⟩
  rw [if_neg h1] at hW ⊢
  have ho : m.on = true := by simpa using h1
  have hsn := Nat.le_trans hWf.sinceN (Nat.le_of_lt hc)
  unfold M.does at hW ⊢
  by_cases h4 : m.fuse = 0
  · rw [if_pos h4] at hW ⊢
    exact (hD.syncDir_down ho h4).mono fun e w' ⟨he, hD', hO⟩ => ⟨he, Post.keep hW hD' hO⟩
  rw [if_neg h4] at hW ⊢
  exact (hD.syncDir_ok ho h4 hWf.fuse (by omega) hsn hWf.nms hWf.few).mono fun e w' ⟨he, hD', hO⟩ => ⟨he, Post.keep hW hD' hO⟩
theorem DiskAt.arm (h : DiskAt w F d m) (n : Int) (hn : n ≤ 9223372036854775807) : Calls Try.prog 23 #[.pointer (some ⟨d, 0, none⟩), .int .i64 n] w fun e w' => e = .returned (.tuple #[]) ∧ Post F d w w' (m.arm n) := by
  obtain ⟨hWf, ad, dv, nB, kB, sv, hD⟩ := id h
  exact (hD.Arm n).mono fun e w' ⟨he, hD', hO⟩ => ⟨he, Post.keep (wf_arm hWf n hn) hD' hO⟩
theorem DiskAt.start (h : DiskAt w F d m) (hc : m.calls < 1099511627776) (ch : Int) (ka : Option Addr) (klen kcap : Nat) (zs : List Int) (hK : Ints w ka klen zs) (hkl : klen ≤ kcap) (hkm : kcap ≤ maxLen) (hsrc : ∀ b off, ka = some ⟨b, off, none⟩ → 0 < klen → ¬ F b) :
    Calls Try.prog 25 #[.pointer (some ⟨d, 0, none⟩), .int .i64 ch, .slice ka klen kcap] w fun e w' => e = .returned (.int .i64 (m.start ch zs).2) ∧ Post F d w w' (m.start ch zs).1 := by
  have hW := wf_start h.1 ch zs
  obtain ⟨hWf, ad, dv, nB, kB, sv, hD⟩ := id h
  cases ho : m.on with
  | true =>
    have e1 : m.start ch zs = (m, 16) := by unfold M.start; rw [ho]; rfl
    rw [e1]
    exact (hD.start_on ho _ _).mono fun e w' ⟨he, hw⟩ => by subst hw; exact ⟨he, Post.same h⟩
  | false =>
    have e1 : (m.start ch zs).2 = 0 := by unfold M.start; rw [ho]; rfl
    rw [e1]
    exact (hD.start_off hWf ho hc ch ka klen kcap zs hK hkl hkm hsrc).mono fun e w' ⟨he, F', dv', nB', hD', hF, hO⟩ => ⟨he, F', ⟨hW, _, _, _, _, _, hD'⟩, hF, hO⟩
theorem DiskAt.on (h : DiskAt w F d m) : Calls Try.prog 11 #[.pointer (some ⟨d, 0, none⟩)] w fun e w' => e = .returned (.bool m.on) ∧ w = w' := by
  obtain ⟨hWf, ad, dv, nB, kB, sv, hD⟩ := h
  exact hD.On
theorem DiskAt.calls (h : DiskAt w F d m) : Calls Try.prog 17 #[.pointer (some ⟨d, 0, none⟩)] w fun e w' => e = .returned (.int .i64 m.calls) ∧ w = w' := by
  obtain ⟨hWf, ad, dv, nB, kB, sv, hD⟩ := h
  exact hD.Calls
theorem DiskAt.used (h : DiskAt w F d m) : Calls Try.prog 15 #[.pointer (some ⟨d, 0, none⟩)] w fun e w' => e = .returned (.int .i64 m.uses) ∧ Below w.heap.size w w' := by
  obtain ⟨hWf, ad, dv, nB, kB, sv, hD⟩ := h
  exact hD.Used hWf.okN (Nat.le_trans (used_le hWf) (by decide))
theorem DiskAt.names (h : DiskAt w F d m) : Calls Try.prog 13 #[.pointer (some ⟨d, 0, none⟩)] w fun e w' => ∃ v, e = .returned v ∧ Texts w' w.heap.size v m.list ∧ Below w.heap.size w w' := by
  obtain ⟨hWf, ad, dv, nB, kB, sv, hD⟩ := h
  exact hD.Names hWf.okN hWf.fewN
/-- bytes that are nobody else's -/
def Fresh (w : World) (B : Nat) (v : Value) (l : List UInt8) : Prop := Held w v l ∧ ∀ b, v.ownBlock = some b → B ≤ b
theorem Fresh.nil (w : World) (B : Nat) : Fresh w B (.slice none 0 0) [] := ⟨.inl ⟨rfl, rfl⟩, fun b hb => by cases hb⟩
theorem DiskAt.read (h : DiskAt w F d m) (n : Nm) (hn : n.length ≤ maxLen) : Calls Try.prog 18 #[.pointer (some ⟨d, 0, none⟩), .string (str n)] w fun e w' => ∃ v, e = .returned (.tuple #[v, .int .i64 (m.read n).2]) ∧ Fresh w' w.heap.size v (m.read n).1 ∧ Below w.heap.size w w' := by
  obtain ⟨hWf, ad, dv, nB, kB, sv, hD⟩ := id h
  unfold M.read
  by_cases h1 : m.on = false
  · rw [if_pos h1]
    exact (hD.read_off h1 _).mono fun e w' ⟨he, hw⟩ => by subst hw; exact ⟨_, he, Fresh.nil _ _, Below.refl _ _⟩
  rw [if_neg h1]
  have ho : m.on = true := by simpa using h1
  cases hq : look m.names n with
  | none => exact (hD.read_none ho n hn hq).mono fun e w' ⟨he, hw⟩ => by subst hw; exact ⟨_, he, Fresh.nil _ _, Below.refl _ _⟩
  | some i =>
    have hi := hWf.okN.less _ (look_mem hq)
    exact (hD.read_ok ho n hn i hq hi (Nat.le_trans (Nat.le_trans (hWf.files i hi).2 hWf.room) (by decide))).mono fun e w' ⟨v, he, h2, h3, h4⟩ => ⟨v, he, ⟨h2, h3⟩, h4⟩
end
end Go.Proofs.Ytedpiikdlpehjaa.Dsk
