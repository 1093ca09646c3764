/- The calls that are refused. -/
import Derived.Test.YtedpiikdlpehjaaDiskOps
namespace Go.Proofs.Ytedpiikdlpehjaa.Dsk
open Go Go.RowKit Go.Maps
set_option linter.unusedSimpArgs false
set_option linter.unusedVariables false

theorem append_un (v s x : Value) (w : World) (h : Un w v) : Calls Try.prog 21 #[v, s, x] w fun e w' => e = .returned (.int .i64 2) ∧ w = w' := by
  have h1 := find_un v s w h
  clear h
  go_enter Try.func21, Try.ntmps21
  go_wp2_with (go_at_call 42; refine h1.mono ?_; rintro e w' ⟨rfl, rfl⟩)
  go_ret
  exact ⟨rfl, rfl⟩
theorem sync_un (v s : Value) (w : World) (h : Un w v) : Calls Try.prog 22 #[v, s] w fun e w' => e = .returned (.int .i64 2) ∧ w = w' := by
  have h1 := find_un v s w h
  clear h
  go_enter Try.func22, Try.ntmps22
  go_wp2_with (go_at_call 42; refine h1.mono ?_; rintro e w' ⟨rfl, rfl⟩)
  go_ret
  exact ⟨rfl, rfl⟩
theorem rename_un (v s x : Value) (w : World) (h : Un w v) : Calls Try.prog 26 #[v, s, x] w fun e w' => e = .returned (.int .i64 2) ∧ w = w' := by
  have h1 := find_un v s w h
  clear h
  go_enter Try.func26, Try.ntmps26
  go_wp2_with (go_at_call 42; refine h1.mono ?_; rintro e w' ⟨rfl, rfl⟩)
  go_ret
  exact ⟨rfl, rfl⟩
theorem remove_un (v s : Value) (w : World) (h : Un w v) : Calls Try.prog 27 #[v, s] w fun e w' => e = .returned (.int .i64 2) ∧ w = w' := by
  have h1 := find_un v s w h
  clear h
  go_enter Try.func27, Try.ntmps27
  go_wp2_with (go_at_call 42; refine h1.mono ?_; rintro e w' ⟨rfl, rfl⟩)
  go_ret
  exact ⟨rfl, rfl⟩
theorem read_un (v s : Value) (w : World) (h : Un w v) : Calls Try.prog 18 #[v, s] w fun e w' => e = .returned (.tuple #[.slice none 0 0, .int .i64 2]) ∧ w = w' := by
  have h1 := find_un v s w h
  clear h
  go_enter Try.func18, Try.ntmps18
  go_wp2_with (go_at_call 42; refine h1.mono ?_; rintro e w' ⟨rfl, rfl⟩)
  go_ret2
  exact ⟨rfl, rfl⟩
theorem create_un (v s : Value) (w : World) (h : Un w v) : Calls Try.prog 20 #[v, s] w fun e w' => e = .returned (.int .i64 2) ∧ w = w' := by
  have h1 := ready_un v w h
  clear h
  go_enter Try.func20, Try.ntmps20
  go_wp2_with (go_at_call 36; refine h1.mono ?_; rintro e w' ⟨rfl, rfl⟩)
  go_ret
  exact ⟨rfl, rfl⟩
theorem syncDir_un (v : Value) (w : World) (h : Un w v) : Calls Try.prog 24 #[v] w fun e w' => e = .returned (.int .i64 2) ∧ w = w' := by
  have h1 := ready_un v w h
  clear h
  go_enter Try.func24, Try.ntmps24
  go_wp2_with (go_at_call 36; refine h1.mono ?_; rintro e w' ⟨rfl, rfl⟩)
  go_ret
  exact ⟨rfl, rfl⟩
section
variable {w : World} {F : Nat → Prop} {d : Nat} {m : M} {ad : List Nat} {dv : List Value} {nB kB : Nat} {sv : Value}

theorem DiskIn.append_off (h : DiskIn w F d m ad dv nB kB sv) (ho : m.on = false) (s x : Value) : Go.Calls Try.prog 21 #[.pointer (some ⟨d, 0, none⟩), s, x] w fun e w' => e = .returned (.int .i64 15) ∧ w = w' := by
  have h1 := h.find_off ho s
  clear h ho
  go_enter Try.func21, Try.ntmps21
  go_wp2_with (go_at_call 42; refine h1.mono ?_; rintro e w' ⟨rfl, rfl⟩)
  go_ret
  exact ⟨rfl, rfl⟩
theorem DiskIn.append_none (h : DiskIn w F d m ad dv nB kB sv) (ho : m.on = true) (n : Nm) (hn : n.length ≤ maxLen) (hl : look m.names n = none) (x : Value) : Go.Calls Try.prog 21 #[.pointer (some ⟨d, 0, none⟩), .string (str n), x] w fun e w' => e = .returned (.int .i64 6) ∧ w = w' := by
  have h1 := h.find_none ho n hn hl
  obtain ⟨S, HS⟩ : ∃ S, Hid (S = str n) := ⟨_, rfl⟩
  rw [← HS.out] at h1 ⊢
  clear h ho hn hl
  go_enter Try.func21, Try.ntmps21
  go_wp2_with (go_at_call 42; refine h1.mono ?_; rintro e w' ⟨rfl, rfl⟩)
  go_ret
  exact ⟨rfl, rfl⟩
theorem DiskIn.sync_off (h : DiskIn w F d m ad dv nB kB sv) (ho : m.on = false) (s : Value) : Go.Calls Try.prog 22 #[.pointer (some ⟨d, 0, none⟩), s] w fun e w' => e = .returned (.int .i64 15) ∧ w = w' := by
  have h1 := h.find_off ho s
  clear h ho
  go_enter Try.func22, Try.ntmps22
  go_wp2_with (go_at_call 42; refine h1.mono ?_; rintro e w' ⟨rfl, rfl⟩)
  go_ret
  exact ⟨rfl, rfl⟩
theorem DiskIn.sync_none (h : DiskIn w F d m ad dv nB kB sv) (ho : m.on = true) (n : Nm) (hn : n.length ≤ maxLen) (hl : look m.names n = none) : Go.Calls Try.prog 22 #[.pointer (some ⟨d, 0, none⟩), .string (str n)] w fun e w' => e = .returned (.int .i64 6) ∧ w = w' := by
  have h1 := h.find_none ho n hn hl
  obtain ⟨S, HS⟩ : ∃ S, Hid (S = str n) := ⟨_, rfl⟩
  rw [← HS.out] at h1 ⊢
  clear h ho hn hl
  go_enter Try.func22, Try.ntmps22
  go_wp2_with (go_at_call 42; refine h1.mono ?_; rintro e w' ⟨rfl, rfl⟩)
  go_ret
  exact ⟨rfl, rfl⟩
theorem DiskIn.rename_off (h : DiskIn w F d m ad dv nB kB sv) (ho : m.on = false) (s x : Value) : Go.Calls Try.prog 26 #[.pointer (some ⟨d, 0, none⟩), s, x] w fun e w' => e = .returned (.int .i64 15) ∧ w = w' := by
  have h1 := h.find_off ho s
  clear h ho
  go_enter Try.func26, Try.ntmps26
  go_wp2_with (go_at_call 42; refine h1.mono ?_; rintro e w' ⟨rfl, rfl⟩)
  go_ret
  exact ⟨rfl, rfl⟩
theorem DiskIn.rename_none (h : DiskIn w F d m ad dv nB kB sv) (ho : m.on = true) (n : Nm) (hn : n.length ≤ maxLen) (hl : look m.names n = none) (x : Value) : Go.Calls Try.prog 26 #[.pointer (some ⟨d, 0, none⟩), .string (str n), x] w fun e w' => e = .returned (.int .i64 6) ∧ w = w' := by
  have h1 := h.find_none ho n hn hl
  obtain ⟨S, HS⟩ : ∃ S, Hid (S = str n) := ⟨_, rfl⟩
  rw [← HS.out] at h1 ⊢
  clear h ho hn hl
  go_enter Try.func26, Try.ntmps26
  go_wp2_with (go_at_call 42; refine h1.mono ?_; rintro e w' ⟨rfl, rfl⟩)
  go_ret
  exact ⟨rfl, rfl⟩
theorem DiskIn.remove_off (h : DiskIn w F d m ad dv nB kB sv) (ho : m.on = false) (s : Value) : Go.Calls Try.prog 27 #[.pointer (some ⟨d, 0, none⟩), s] w fun e w' => e = .returned (.int .i64 15) ∧ w = w' := by
  have h1 := h.find_off ho s
  clear h ho
  go_enter Try.func27, Try.ntmps27
  go_wp2_with (go_at_call 42; refine h1.mono ?_; rintro e w' ⟨rfl, rfl⟩)
  go_ret
  exact ⟨rfl, rfl⟩
theorem DiskIn.remove_none (h : DiskIn w F d m ad dv nB kB sv) (ho : m.on = true) (n : Nm) (hn : n.length ≤ maxLen) (hl : look m.names n = none) : Go.Calls Try.prog 27 #[.pointer (some ⟨d, 0, none⟩), .string (str n)] w fun e w' => e = .returned (.int .i64 6) ∧ w = w' := by
  have h1 := h.find_none ho n hn hl
  obtain ⟨S, HS⟩ : ∃ S, Hid (S = str n) := ⟨_, rfl⟩
  rw [← HS.out] at h1 ⊢
  clear h ho hn hl
  go_enter Try.func27, Try.ntmps27
  go_wp2_with (go_at_call 42; refine h1.mono ?_; rintro e w' ⟨rfl, rfl⟩)
  go_ret
  exact ⟨rfl, rfl⟩
theorem DiskIn.read_off (h : DiskIn w F d m ad dv nB kB sv) (ho : m.on = false) (s : Value) : Go.Calls Try.prog 18 #[.pointer (some ⟨d, 0, none⟩), s] w fun e w' => e = .returned (.tuple #[.slice none 0 0, .int .i64 15]) ∧ w = w' := by
  have h1 := h.find_off ho s
  clear h ho
  go_enter Try.func18, Try.ntmps18
  go_wp2_with (go_at_call 42; refine h1.mono ?_; rintro e w' ⟨rfl, rfl⟩)
  go_ret2
  exact ⟨rfl, rfl⟩
theorem DiskIn.read_none (h : DiskIn w F d m ad dv nB kB sv) (ho : m.on = true) (n : Nm) (hn : n.length ≤ maxLen) (hl : look m.names n = none) : Go.Calls Try.prog 18 #[.pointer (some ⟨d, 0, none⟩), .string (str n)] w fun e w' => e = .returned (.tuple #[.slice none 0 0, .int .i64 6]) ∧ w = w' := by
  have h1 := h.find_none ho n hn hl
  obtain ⟨S, HS⟩ : ∃ S, Hid (S = str n) := ⟨_, rfl⟩
  rw [← HS.out] at h1 ⊢
  clear h ho hn hl
  go_enter Try.func18, Try.ntmps18
  go_wp2_with (go_at_call 42; refine h1.mono ?_; rintro e w' ⟨rfl, rfl⟩)
  go_ret2
  exact ⟨rfl, rfl⟩
theorem DiskIn.create_off (h : DiskIn w F d m ad dv nB kB sv) (ho : m.on = false) (s : Value) : Go.Calls Try.prog 20 #[.pointer (some ⟨d, 0, none⟩), s] w fun e w' => e = .returned (.int .i64 15) ∧ w = w' := by
  have h1 := h.ready_off ho
  clear h ho
  go_enter Try.func20, Try.ntmps20
  go_wp2_with (go_at_call 36; refine h1.mono ?_; rintro e w' ⟨rfl, rfl⟩)
  go_ret
  exact ⟨rfl, rfl⟩
theorem DiskIn.syncDir_off (h : DiskIn w F d m ad dv nB kB sv) (ho : m.on = false) : Go.Calls Try.prog 24 #[.pointer (some ⟨d, 0, none⟩)] w fun e w' => e = .returned (.int .i64 15) ∧ w = w' := by
  have h1 := h.ready_off ho
  clear h ho
  go_enter Try.func24, Try.ntmps24
  go_wp2_with (go_at_call 36; refine h1.mono ?_; rintro e w' ⟨rfl, rfl⟩)
  go_ret
  exact ⟨rfl, rfl⟩
end
end Go.Proofs.Ytedpiikdlpehjaa.Dsk
