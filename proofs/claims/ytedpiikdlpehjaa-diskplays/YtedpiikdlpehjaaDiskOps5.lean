/- Create, New. -/
import Derived.Test.YtedpiikdlpehjaaDiskOps4
namespace Go.Proofs.Ytedpiikdlpehjaa.Dsk
open Go Go.RowKit Go.Maps
set_option linter.unusedSimpArgs false
set_option linter.unusedVariables false

theorem getD_more {α : Type} (l : List α) (x z : α) (i : Nat) (h : i < l.length) : (l ++ [x]).getD i z = l.getD i z := by
  simp only [List.getD_eq_getElem?_getD, List.getElem?_append_left h]
theorem getD_last {α : Type} (l : List α) (x z : α) : (l ++ [x]).getD l.length z = x := by
  simp only [List.getD_eq_getElem?_getD, List.getElem?_concat_length, Option.getD_some]
theorem chg_more (ad : List Nat) (b : Nat) {l : List Chg} (h : ∀ c ∈ l, ∀ i, c.to = some i → i < ad.length) : l.flatMap (chgC (ad ++ [b])) = l.flatMap (chgC ad) := by
  simp only [List.flatMap_def]
  congr 1
  apply List.map_congr_left
  intro c hc
  unfold chgC
  cases e : c.to with
  | none => rfl
  | some i =>
    simp only [pv]
    rw [getD_more ad b 0 i (h c hc i e)]
section
variable {w : World} {F : Nat → Prop} {d : Nat} {m : M} {ad : List Nat} {dv : List Value} {nB kB : Nat} {sv : Value}
/-- one file more -/
theorem DiskIn.newfile {w' : World} {b : Nat} (h : DiskIn w F d m ad dv nB kB sv) (hW : Wf m) (hs : w.heap.size ≤ w'.heap.size) (e : ∀ k, F k → w'.heap[k]? = w.heap[k]?) (hb : w.heap.size ≤ b) (hf : Row w' b 81 [.slice none 0 0, .int .i64 0]) :
    DiskIn w' (fun k => F k ∨ k = b) d { m with files := m.files ++ [nul] } (ad ++ [b]) (dv ++ [.slice none 0 0]) nB kB sv := by
  have h' := h.at_ hs e
  have hle : (m.files ++ [nul]).length = m.files.length + 1 := by simp
  have fold : ∀ i, i < m.files.length → M.file { m with files := m.files ++ [nul] } i = m.file i := fun i hi => by unfold M.file; exact getD_more _ _ _ _ hi
  have fnew : M.file { m with files := m.files ++ [nul] } m.files.length = nul := by unfold M.file; exact getD_last _ _ _
  have aold : ∀ i, i < m.files.length → (ad ++ [b]).getD i 0 = ad.getD i 0 := fun i hi => getD_more _ _ _ _ (by rw [h.len]; exact hi)
  have anew : (ad ++ [b]).getD m.files.length 0 = b := by rw [← h.len]; exact getD_last _ _ _
  have dold : ∀ i, i < m.files.length → (dv ++ [Value.slice none 0 0]).getD i undef = dv.getD i undef := fun i hi => getD_more _ _ _ _ (by rw [h.dlen]; exact hi)
  have dnew : (dv ++ [Value.slice none 0 0]).getD m.files.length undef = .slice none 0 0 := by rw [← h.dlen]; exact getD_last _ _ _
  have hadb : ∀ i, i < m.files.length → ad.getD i 0 ≠ b := fun i hi q => by have := h.lt _ (h.ff i hi); omega
  refine ⟨h'.cell, ?_, ?_, h.nk, ?_, by rw [hle, List.length_append, h.len]; rfl, by rw [hle, List.length_append, h.dlen]; rfl, ?_, ?_, ?_, .inl h.fd, .inl h.fn, .inl h.fk, fun k hk => .inl (h.fs k hk), ?_, ?_, fun k hk => ?_⟩
  · show World.ownsMap _ _ _ _ _ _ _
    rw [dat_more ad [b] (by rw [h.len]; exact hW.okN.less)]
    exact h'.names
  · show World.ownsMap _ _ _ _ _ _ _
    rw [dat_more ad [b] (by rw [h.len]; exact hW.okK.less)]
    exact h'.kept
  · show World.ownsRow _ _ _ _ _ _ _
    rw [chg_more ad b (by rw [h.len]; exact hW.to)]
    exact h'.since
  · intro i j hi hj hij
    rw [hle] at hi hj
    by_cases qi : i < m.files.length
    · by_cases qj : j < m.files.length
      · rw [aold i qi, aold j qj]; exact h.apart i j qi qj hij
      · obtain rfl : j = m.files.length := by omega
        rw [aold i qi, anew]; exact hadb i qi
    · obtain rfl : i = m.files.length := by omega
      have qj : j < m.files.length := by omega
      rw [aold j qj, anew]; exact (hadb j qj).symm
  · intro i hi
    rw [hle] at hi
    by_cases qi : i < m.files.length
    · rw [aold i qi, dold i qi, fold i qi]; exact h'.file i qi
    · obtain rfl : i = m.files.length := by omega
      rw [anew, dnew, fnew]
      exact ⟨hf, .inl ⟨rfl, rfl⟩⟩
  · intro i j hi hj hij k hk
    rw [hle] at hi hj
    by_cases qi : i < m.files.length
    · by_cases qj : j < m.files.length
      · rw [dold i qi] at hk
        rw [dold j qj]; exact h.rows i j qi qj hij k hk
      · obtain rfl : j = m.files.length := by omega
        rw [dnew]; exact fun q => by cases q
    · obtain rfl : i = m.files.length := by omega
      rw [dnew] at hk
      cases hk
  · intro i hi
    rw [hle] at hi
    by_cases qi : i < m.files.length
    · rw [aold i qi]; exact .inl (h.ff i qi)
    · obtain rfl : i = m.files.length := by omega
      rw [anew]; exact .inr rfl
  · intro i hi k hk
    rw [hle] at hi
    by_cases qi : i < m.files.length
    · rw [dold i qi] at hk; exact .inl (h.fr i qi k hk)
    · obtain rfl : i = m.files.length := by omega
      rw [dnew] at hk
      cases hk
  · rcases hk with hk | hk
    · exact h'.lt k hk
    · rw [hk]; exact hf.lt
theorem DiskIn.create_arg (h : DiskIn w F d m ad dv nB kB sv) (ho : m.on = true) (n : Nm) (hn : n.length ≤ maxLen) (hnm : isNm n = false) :
    Go.Calls Try.prog 20 #[.pointer (some ⟨d, 0, none⟩), .string (str n)] w fun e w' => e = .returned (.int .i64 1) ∧ w = w' := by
  have h1 := h.ready_on ho
  have h2 := isName_any n w hn
  rw [hnm] at h2
  obtain ⟨S, HS⟩ : ∃ S, Hid (S = str n) := ⟨_, rfl⟩
  rw [← HS.out] at h2 ⊢
  clear h ho hn hnm
  go_enter Try.func20, Try.ntmps20
  go_wp2_with (first | (go_at_call 36; refine h1.mono ?_; rintro e w' ⟨rfl, rfl⟩) | (go_at_call 45; refine h2.mono ?_; rintro e w' ⟨rfl, rfl⟩))
  go_ret
  exact ⟨rfl, rfl⟩
theorem DiskIn.create_many (h : DiskIn w F d m ad dv nB kB sv) (ho : m.on = true) (n : Nm) (hn : n.length ≤ maxLen) (hnm : isNm n = true) (hl : look m.names n = none) (h64 : m.names.length = 64) :
    Go.Calls Try.prog 20 #[.pointer (some ⟨d, 0, none⟩), .string (str n)] w fun e w' => e = .returned (.int .i64 5) ∧ w = w' := by
  have h1 := h.ready_on ho
  have h2 := isName_any n w hn
  rw [hnm] at h2
  have hlk := h.names.lookup hn
  rw [hl] at hlk
  simp only [pv] at hlk
  have hln := h.names.len 3
  rw [h64] at hln
  have hc5 := h.c5
  obtain ⟨S, HS⟩ : ∃ S, Hid (S = str n) := ⟨_, rfl⟩
  rw [← HS.out] at h2 hlk ⊢
  clear h ho hn hnm hl h64
  go_enter Try.func20, Try.ntmps20
  go_wp2_with (first | (go_at_call 36; refine h1.mono ?_; rintro e w' ⟨rfl, rfl⟩) | (go_at_call 45; refine h2.mono ?_; rintro e w' ⟨rfl, rfl⟩))
  go_ret
  exact ⟨rfl, rfl⟩
theorem DiskIn.create_down (h : DiskIn w F d m ad dv nB kB sv) (ho : m.on = true) (hf : m.fuse = 0) (n : Nm) (hn : n.length ≤ maxLen) (hnm : isNm n = true) (hl : ¬ (look m.names n = none ∧ m.names.length = 64)) :
    Go.Calls Try.prog 20 #[.pointer (some ⟨d, 0, none⟩), .string (str n)] w fun e w' => e = .returned (.int .i64 15) ∧ DiskIn w' F d m.off ad dv nB kB sv ∧ Only F w w' := by
  have h1 := h.ready_on ho
  have h2 := isName_any n w hn
  rw [hnm] at h2
  have hlk := h.names.lookup hn
  have hln := h.names.len 3
  have hc5 := h.c5
  have HB : Hid (Below w.heap.size w (w.alloc (.cells #[.slice none 0 0, .int .i64 0] 81))) := (Below.refl _ w).alloc (Nat.le_refl _) _
  have hA : DiskIn (w.alloc (.cells #[.slice none 0 0, .int .i64 0] 81)) F d m ad dv nB kB sv := h.at_ HB.out.size fun k hk => HB.out.block k (h.lt k hk)
  have h4 := fun x y z => hA.turn_off hf x y z
  obtain ⟨S, HS⟩ : ∃ S, Hid (S = str n) := ⟨_, rfl⟩
  rw [← HS.out] at h2 hlk ⊢
  cases hq : look m.names n with
  | none =>
    have h64 : (((m.names.length : Nat) : Int) == 64) = false := by
      rw [beq_eq_false_iff_ne]
      intro e
      exact hl ⟨hq, by omega⟩
    rw [hq] at hlk
    simp only [pv] at hlk
    generalize m.names.length = nl at hln h64
    clear h ho hn hnm hl hf hA hq
    go_enter Try.func20, Try.ntmps20
    go_wp2_with (first | (go_at_call 36; refine h1.mono ?_; rintro e w' ⟨rfl, rfl⟩) | (go_at_call 45; refine h2.mono ?_; rintro e w' ⟨rfl, rfl⟩) | (go_at_call 46; refine (h4 _ _ _ rfl rfl rfl).mono ?_; rintro e w1 ⟨rfl, h3, hO⟩))
    go_ret
    exact ⟨rfl, h3, (Only.of_below HB.out).step hO⟩
  | some i =>
    rw [hq] at hlk
    simp only [pv] at hlk
    generalize ad.getD i 0 = fb at hlk
    clear h ho hn hnm hl hf hA hq hln
    go_enter Try.func20, Try.ntmps20
    go_wp2_with (first | (go_at_call 36; refine h1.mono ?_; rintro e w' ⟨rfl, rfl⟩) | (go_at_call 45; refine h2.mono ?_; rintro e w' ⟨rfl, rfl⟩) | (go_at_call 46; refine (h4 _ _ _ rfl rfl rfl).mono ?_; rintro e w1 ⟨rfl, h3, hO⟩))
    go_ret
    exact ⟨rfl, h3, (Only.of_below HB.out).step hO⟩
theorem DiskIn.create_ok (h : DiskIn w F d m ad dv nB kB sv) (hW : Wf m) (ho : m.on = true) (hf : m.fuse ≠ 0) (hc : m.calls < 1099511627776) (n : Nm) (hn : n.length ≤ maxLen) (hnm : isNm n = true) (hl : ¬ (look m.names n = none ∧ m.names.length = 64)) :
    Go.Calls Try.prog 20 #[.pointer (some ⟨d, 0, none⟩), .string (str n)] w fun e w' => e = .returned (.int .i64 0) ∧ ∃ b sv', DiskIn w' (fun k => (F k ∨ k = b) ∨ sv'.ownBlock = some k) d { m.spent.turn ⟨[], n, some m.files.length⟩ with files := m.files ++ [nul] } (ad ++ [b]) (dv ++ [.slice none 0 0]) nB kB sv' ∧ (∀ k, ((F k ∨ k = b) ∨ sv'.ownBlock = some k) → F k ∨ w.heap.size ≤ k) ∧ Only F w w' := by
  have h1 := h.ready_on ho
  have h2 := isName_any n w hn
  rw [hnm] at h2
  have hlk := h.names.lookup hn
  have hln := h.names.len 3
  have hc5 := h.c5
  have HB : Hid (Below w.heap.size w (w.alloc (.cells #[.slice none 0 0, .int .i64 0] 81))) := (Below.refl _ w).alloc (Nat.le_refl _) _
  have hA : DiskIn (w.alloc (.cells #[.slice none 0 0, .int .i64 0] 81)) (fun k => F k ∨ k = w.heap.size) d { m with files := m.files ++ [nul] } (ad ++ [w.heap.size]) (dv ++ [.slice none 0 0]) nB kB sv :=
    h.newfile hW HB.out.size (fun k hk => HB.out.block k (h.lt k hk)) (Nat.le_refl _) (Row.mk w [.slice none 0 0, .int .i64 0] _)
  have h4 := hA.turn_on hf hW.fuse hc ⟨[], n, some m.files.length⟩ (Nat.zero_le _) hn (Nat.le_trans hW.fewN (by decide)) (Nat.le_trans hW.sinceN (Nat.le_of_lt hc))
  have e0 : str ([] : List UInt8) = ⟨#[]⟩ := rfl
  have e1 : (ad ++ [w.heap.size]).getD m.files.length 0 = w.heap.size := by rw [← h.len]; exact getD_last _ _ _
  simp only [pv, e0, e1] at h4
  have HFIN : Hid (∀ w', (∃ sv', DiskIn w' (fun k => (F k ∨ k = w.heap.size) ∨ sv'.ownBlock = some k) d (M.turn (M.spent { m with files := m.files ++ [nul] }) ⟨[], n, some m.files.length⟩) (ad ++ [w.heap.size]) (dv ++ [.slice none 0 0]) nB kB sv' ∧
      (∀ k, sv'.ownBlock = some k → (F k ∨ k = w.heap.size) ∨ (w.alloc (.cells #[.slice none 0 0, .int .i64 0] 81)).heap.size ≤ k) ∧ Only (fun k => F k ∨ k = w.heap.size) (w.alloc (.cells #[.slice none 0 0, .int .i64 0] 81)) w') →
      ∃ b sv', DiskIn w' (fun k => (F k ∨ k = b) ∨ sv'.ownBlock = some k) d { m.spent.turn ⟨[], n, some m.files.length⟩ with files := m.files ++ [nul] } (ad ++ [b]) (dv ++ [.slice none 0 0]) nB kB sv' ∧ (∀ k, ((F k ∨ k = b) ∨ sv'.ownBlock = some k) → F k ∨ w.heap.size ≤ k) ∧ Only F w w') := by
    rintro w' ⟨sv', k1, k2, k3⟩
    refine ⟨w.heap.size, sv', k1, ?_, (Only.of_below HB.out).trans k3 ?_⟩
    · rintro k ((q | q) | q)
      · exact .inl q
      · exact .inr (Nat.le_of_eq q.symm)
      · rcases k2 k q with (r | r) | r
        · exact .inl r
        · exact .inr (Nat.le_of_eq r.symm)
        · right
          simp at r
          omega
    · rintro k (q | q)
      · exact .inl q
      · exact .inr (Nat.le_of_eq q.symm)
  obtain ⟨S, HS⟩ : ∃ S, Hid (S = str n) := ⟨_, rfl⟩
  rw [← HS.out] at h2 hlk h4 ⊢
  cases hq : look m.names n with
  | none =>
    have h64 : (((m.names.length : Nat) : Int) == 64) = false := by
      rw [beq_eq_false_iff_ne]
      intro e
      exact hl ⟨hq, by omega⟩
    rw [hq] at hlk
    simp only [pv] at hlk
    generalize m.names.length = nl at hln h64
    clear h ho hn hnm hl hf hA hq hW hc e0 e1
    go_enter Try.func20, Try.ntmps20
    go_wp2_with (first | (go_at_call 36; refine h1.mono ?_; rintro e w' ⟨rfl, rfl⟩) | (go_at_call 45; refine h2.mono ?_; rintro e w' ⟨rfl, rfl⟩) | (go_at_call 46; refine h4.mono ?_; rintro e w1 ⟨rfl, h3⟩))
    go_ret
    exact ⟨rfl, HFIN.out _ h3⟩
  | some i =>
    rw [hq] at hlk
    simp only [pv] at hlk
    generalize ad.getD i 0 = fb at hlk
    clear h ho hn hnm hl hf hA hq hln hW hc e0 e1
    go_enter Try.func20, Try.ntmps20
    go_wp2_with (first | (go_at_call 36; refine h1.mono ?_; rintro e w' ⟨rfl, rfl⟩) | (go_at_call 45; refine h2.mono ?_; rintro e w' ⟨rfl, rfl⟩) | (go_at_call 46; refine h4.mono ?_; rintro e w1 ⟨rfl, h3⟩))
    go_ret
    exact ⟨rfl, HFIN.out _ h3⟩
end
theorem new_arg (r : Int) (w : World) (h : r < 0 ∨ 1048576 < r) : Calls Try.prog 6 #[.int .i64 r] w fun e w' => e = .returned (.tuple #[.pointer none, .int .i64 1]) ∧ w = w' := by
  by_cases h0 : r < 0
  · clear h
    go_enter Try.func6, Try.ntmps6
    go_wp2
    go_ret2
    exact ⟨rfl, rfl⟩
  · have h1 : 1048576 < r := by omega
    clear h
    go_enter Try.func6, Try.ntmps6
    go_wp2
    go_ret2
    exact ⟨rfl, rfl⟩
theorem wf_new (r : Nat) (h : r ≤ 1048576) : Wf (M.new r) := by
  refine ⟨rfl, fun j => ?_, fun j => ?_, (fun c hc => by cases hc), (fun c hc => by cases hc), fun i hi => absurd hi (Nat.not_lt_zero _), h, Nat.le_refl _, Nat.le_refl _, (by simp [M.new])⟩
  · have : settle (M.new r).kept ((M.new r).since.take j) = [] := by simp [M.new, settle]
    rw [this]
    exact Ok.nil _
  · have : settle (M.new r).kept ((M.new r).since.take j) = [] := by simp [M.new, settle]
    rw [this]
    exact Nat.zero_le _
theorem new_at (r : Nat) (w : World) (h : r ≤ 1048576) : DiskAt (((w.alloc (.map #[] 0)).alloc (.map #[] 0)).alloc (.cells #[.bool true, .bool true, .int .i64 r, .int .i64 0, .int .i64 (-1), .map (some w.heap.size), .map (some (w.heap.size + 1)), .slice none 0 0] 62)) (fun k => w.heap.size ≤ k ∧ k < w.heap.size + 3) (w.heap.size + 1 + 1) (M.new r) := by
  have e1 : (w.alloc (.map #[] 0)).heap.size = w.heap.size + 1 := by simp
  have e2 : ((w.alloc (.map #[] 0)).alloc (.map #[] 0)).heap.size = w.heap.size + 1 + 1 := by simp
  have e3 : ∀ o, (((w.alloc (.map #[] 0)).alloc (.map #[] 0)).alloc o).heap.size = w.heap.size + 3 := by intro o; simp
  refine ⟨wf_new r h, [], [], w.heap.size, w.heap.size + 1, .slice none 0 0, ?_, ?_, ?_, by omega, ⟨rfl, .inl ⟨rfl, rfl⟩⟩, rfl, rfl, fun i j hi => absurd hi (Nat.not_lt_zero _), fun i hi => absurd hi (Nat.not_lt_zero _), fun i j hi => absurd hi (Nat.not_lt_zero _), ⟨by omega, by omega⟩, ⟨by omega, by omega⟩, ⟨by omega, by omega⟩, (fun b hb => by cases hb), fun i hi => absurd hi (Nat.not_lt_zero _), fun i hi => absurd hi (Nat.not_lt_zero _), fun k hk => ?_⟩
  · have := heap_alloc_new ((w.alloc (.map #[] 0)).alloc (.map #[] 0)) (.cells #[.bool true, .bool true, .int .i64 r, .int .i64 0, .int .i64 (-1), .map (some w.heap.size), .map (some (w.heap.size + 1)), .slice none 0 0] 62)
    rw [e2] at this
    exact this
  · have h1 := World.ownsMap_made w Try.prog 9 elemR
    exact (h1.alloc _).alloc _
  · have h1 := World.ownsMap_made (w.alloc (.map #[] 0)) Try.prog 9 elemR
    rw [e1] at h1
    exact h1.alloc _
  · rw [e3]
    exact hk.2
theorem new_ok (r : Nat) (w : World) (h : r ≤ 1048576) : Calls Try.prog 6 #[.int .i64 r] w fun e w' => ∃ d F, e = .returned (.tuple #[.pointer (some ⟨d, 0, none⟩), .int .i64 0]) ∧ DiskAt w' F d (M.new r) ∧ (∀ k, F k → w.heap.size ≤ k) ∧ Below w.heap.size w w' := by
  have hmm := @run_makeMap Try.prog
  have HR : Hid (r ≤ 1048576) := h
  have h0 : (0 : Int) ≤ (r : Int) := by omega
  have h1 : (r : Int) ≤ 1048576 := by omega
  clear h
  go_enter Try.func6, Try.ntmps6
  go_wp2
  go_ret2
  refine ⟨_, _, rfl, new_at r w HR.out, fun k hk => hk.1, ?_⟩
  exact (((Below.refl _ w).alloc (Nat.le_refl _) _).alloc (by simp) _).alloc (by simp; omega) _
end Go.Proofs.Ytedpiikdlpehjaa.Dsk
