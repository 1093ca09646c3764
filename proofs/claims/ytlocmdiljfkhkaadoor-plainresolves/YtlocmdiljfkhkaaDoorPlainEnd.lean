/- plain.end: what ends a text, by the contracts of its closures. -/
import Derived.Test.YtlocmdiljfkhkaaDoorPlainLeaf
import Derived.BigQuiet
import Derived.Laws.EntriesVeiled
import Derived.Deep.QuietTactic
namespace Go.Proofs.YtlocmdiljfkhkaaDoor.Pln
open Utf Rws
open Go.RowKit
set_option linter.unusedSimpArgs false
set_option linter.unusedVariables false
set_option maxRecDepth 100000

theorem flows_eq : (⟨#[44, 91, 93, 123, 125]⟩ : ByteArray).data.toList = flows := rfl

theorem inFlow_any (w : World) (bf bs : Nat) (f : Bool) (l : List UInt8) (i : Nat) (hs : l.length ≤ 562949953421312) (hi : i < l.length)
    (hf : w.cell? ⟨bf, 0, none⟩ = some (.bool f)) (hl : w.cell? ⟨bs, 0, none⟩ = some (.string (mk l))) :
    Calls Tryd.prog 50 #[.int .i64 i, .pointer (some ⟨bf, 0, none⟩), .pointer (some ⟨bs, 0, none⟩)] w fun e w' => e = .returned (.bool (f && fl (l.getD i 0))) ∧ w = w' := by
  have hsz := mk_size l
  have hg : ∀ h, (mk l)[i]'h = l.getD i 0 := fun h => mk_getD l i h
  have hlt : i < (mk l).size := by rw [mk_size]; exact hi
  have HF : Hid (fl (l.getD i 0) = has (l.getD i 0) (⟨#[44, 91, 93, 123, 125]⟩ : ByteArray).data.toList) := rfl
  cases f
  · go_enter Tryd.func50, Tryd.ntmps50
    go_wp2
    go_ret
    exact ⟨rfl, rfl⟩
  · generalize l.getD i 0 = b at hg HF ⊢
    go_enter Tryd.func50, Tryd.ntmps50
    go_wp2_with (first | (go_at_call 32; refine (isOneOf_any _ _ _).mono ?_; rintro e w' ⟨rfl, rfl⟩))
    go_ret
    rw [HF.out]
    exact ⟨rfl, rfl⟩

theorem b58 (b : UInt8) : ((b.toNat : Int) == 58) = (b == 58) := by
  rw [Bool.eq_iff_iff]
  simp only [beq_iff_eq]
  constructor
  · intro h; apply UInt8.toNat_inj.1; have : b.toNat = 58 := by omega
    rw [this]; rfl
  · rintro rfl; rfl
theorem b35 (b : UInt8) : ((b.toNat : Int) == 35) = (b == 35) := by
  rw [Bool.eq_iff_iff]
  simp only [beq_iff_eq]
  constructor
  · intro h; apply UInt8.toNat_inj.1; have : b.toNat = 35 := by omega
    rw [this]; rfl
  · rintro rfl; rfl

theorem ends_any (w : World) (bf bs bn : Nat) (f : Bool) (l : List UInt8) (i : Nat) (hs : l.length ≤ 562949953421312) (hi : i < l.length)
    (hf : w.cell? ⟨bf, 0, none⟩ = some (.bool f)) (hl : w.cell? ⟨bs, 0, none⟩ = some (.string (mk l))) (hn : w.cell? ⟨bn, 0, none⟩ = some (.func (.func 50) #[] #[.pointer (some ⟨bf, 0, none⟩), .pointer (some ⟨bs, 0, none⟩)])) :
    Calls Tryd.prog 51 #[.int .i64 i, .pointer (some ⟨bs, 0, none⟩), .pointer (some ⟨bn, 0, none⟩)] w fun e w' => e = .returned (.bool (en l f i)) ∧ w = w' := by
  have hsz := mk_size l
  have hg : ∀ h, (mk l)[i]'h = l.getD i 0 := fun h => mk_getD l i h
  have hlt : i < (mk l).size := by rw [mk_size]; exact hi
  have hb58 := b58 (l.getD i 0)
  have hb35 := b35 (l.getD i 0)
  cases c1 : (l.getD i 0 == 58)
  · rw [c1] at hb58
    cases c2 : (l.getD i 0 == 35)
    · rw [c2] at hb35
      have HE : Hid (en l f i = (f && fl (l.getD i 0))) := by unfold en; rw [c1, c2]; rfl
      clear c1 c2
      obtain ⟨V, HV⟩ : ∃ V, Hid ((f && fl (l.getD i 0)) = V) := ⟨_, rfl⟩
      have hI := inFlow_any w bf bs f l i hs hi hf hl
      rw [HV.out] at hI
      have HI : Hid (Calls Tryd.prog 50 #[.int .i64 i, .pointer (some ⟨bf, 0, none⟩), .pointer (some ⟨bs, 0, none⟩)] w fun e w' => e = .returned (.bool V) ∧ w = w') := hI
      clear hI
      generalize l.getD i 0 = b at hg hb58 hb35 HE HV
      go_enter Tryd.func51, Tryd.ntmps51
      go_wp2_with (first | (go_at_call 50; refine HI.out.mono ?_; rintro e w' ⟨rfl, rfl⟩))
      go_ret
      rw [HE.out, HV.out]
      exact ⟨rfl, rfl⟩
    · rw [c2] at hb35
      have HE : Hid (en l f i = (decide (0 < i) && l.getD (i - 1) 0 == 32)) := by unfold en; rw [c1, c2]; rfl
      clear c1 c2
      generalize l.getD i 0 = b at hg hb58 hb35
      by_cases h0 : 0 < i
      · obtain ⟨m, rfl⟩ : ∃ m, i = m + 1 := ⟨i - 1, by omega⟩
        have hlm : m < (mk l).size := by omega
        have hg2 : ∀ h, (mk l)[m]'h = l.getD m 0 := fun h => mk_getD l m h
        have hb2 := b32 (l.getD m 0)
        have HE2 : Hid (en l f (m + 1) = is32 (l.getD m 0)) := by rw [HE.out]; simp; rfl
        generalize l.getD m 0 = b2 at hg2 hb2 HE2
        generalize is32 b2 = V at hb2 HE2
        go_enter Tryd.func51, Tryd.ntmps51
        go_wp2
        go_ret
        rw [HE2.out]
        exact ⟨rfl, rfl⟩
      · obtain rfl : i = 0 := by omega
        have HE2 : Hid (en l f 0 = false) := by rw [HE.out]; rfl
        go_enter Tryd.func51, Tryd.ntmps51
        go_wp2
        go_ret
        rw [HE2.out]
        exact ⟨rfl, rfl⟩
  · rw [c1] at hb58
    have HE : Hid (en l f i = (i + 1 == l.length || l.getD (i + 1) 0 == 32 || (f && fl (l.getD (i + 1) 0)))) := by unfold en; rw [c1]; rfl
    clear c1 hb35
    generalize l.getD i 0 = b at hg hb58
    by_cases h1 : i + 1 = l.length
    · have HE2 : Hid (en l f i = true) := by rw [HE.out]; simp [h1, Hid]
      have hq : ((i : Int) + 1 == (l.length : Int)) = true := by rw [beq_iff_eq]; omega
      clear h1
      go_enter Tryd.func51, Tryd.ntmps51
      go_wp2
      go_ret
      rw [HE2.out]
      exact ⟨rfl, rfl⟩
    · have hq : ((i : Int) + 1 == (l.length : Int)) = false := by rw [beq_eq_false_iff_ne]; omega
      have h2 : i + 1 < l.length := by omega
      have hlm : i + 1 < (mk l).size := by omega
      have hg2 : ∀ h, (mk l)[i + 1]'h = l.getD (i + 1) 0 := fun h => mk_getD l (i + 1) h
      have hb2 := b32 (l.getD (i + 1) 0)
      have hI := inFlow_any w bf bs f l (i + 1) hs h2 hf hl
      have HE2 : Hid (en l f i = (is32 (l.getD (i + 1) 0) || (f && fl (l.getD (i + 1) 0)))) := by
        rw [HE.out]
        have e : (i + 1 == l.length) = false := by simp; omega
        rw [e]; rfl
      obtain ⟨V, HV⟩ : ∃ V, Hid ((f && fl (l.getD (i + 1) 0)) = V) := ⟨_, rfl⟩
      rw [HV.out] at hI HE2
      have HI : Hid (Calls Tryd.prog 50 #[.int .i64 ((i : Int) + 1), .pointer (some ⟨bf, 0, none⟩), .pointer (some ⟨bs, 0, none⟩)] w fun e w' => e = .returned (.bool V) ∧ w = w') := by
        have e : ((i + 1 : Nat) : Int) = (i : Int) + 1 := by omega
        rw [e] at hI; exact hI
      clear hI HE HV h1
      generalize l.getD (i + 1) 0 = b2 at hg2 hb2 HE2
      cases hV2 : is32 b2
      · rw [hV2] at hb2 HE2
        go_enter Tryd.func51, Tryd.ntmps51
        go_wp2_with (first | (go_at_call 50; refine HI.out.mono ?_; rintro e w' ⟨rfl, rfl⟩))
        go_ret
        rw [HE2.out]
        exact ⟨rfl, rfl⟩
      · rw [hV2] at hb2 HE2
        go_enter Tryd.func51, Tryd.ntmps51
        go_wp2
        go_ret
        rw [HE2.out]
        exact ⟨rfl, rfl⟩

theorem ender_any (l : List UInt8) (f : Bool) (w : World) :
    Calls Tryd.prog 34 #[.string (mk l), .bool f] w fun e w' => e = .returned (.func (.func 51) #[] #[.pointer (some ⟨w.heap.size, 0, none⟩), .pointer (some ⟨w.heap.size + 2, 0, none⟩)]) ∧ Below w.heap.size w w' ∧
      w'.cell? ⟨w.heap.size + 1, 0, none⟩ = some (.bool f) ∧ w'.cell? ⟨w.heap.size, 0, none⟩ = some (.string (mk l)) ∧ w'.cell? ⟨w.heap.size + 2, 0, none⟩ = some (.func (.func 50) #[] #[.pointer (some ⟨w.heap.size + 1, 0, none⟩), .pointer (some ⟨w.heap.size, 0, none⟩)]) := by
  go_enter Tryd.func34, Tryd.ntmps34
  go_wp2
  go_ret
  refine ⟨rfl, ?_, ?_, ?_, ?_⟩
  · exact (((Below.refl _ _).alloc (Nat.le_refl _) _).alloc (by simp) _).alloc (by simp; omega) _
  · simp [go_sem]
  · simp [go_sem]
  · simp [go_sem]

theorem end_any (l : List UInt8) (f : Bool) (w : World) (hs : l.length ≤ 562949953421312) :
    Calls Tryd.prog 24 #[.string (mk l), .bool f] w fun e w' => e = .returned (.int .i64 (fin l f)) ∧ Below w.heap.size w w' := by
  have hsz := mk_size l
  go_enter Tryd.func24, Tryd.ntmps24
  go_wp2_with (first | (go_at_call 34; refine (ender_any _ _ _).mono ?_; rintro e W ⟨rfl, hb, hf, hl, hn⟩))
  go_loop [12] (fun i => ∃ n : Nat, n ≤ l.length ∧ i = .int .i64 n ∧ fin l f = fro l f (l.length - n) n) (fun i => l.length - (intOf i).toNat)
  case atStart => exact ⟨0, Nat.zero_le _, rfl, rfl⟩
  case round =>
    obtain ⟨n, hn1, rfl, ht⟩ := hrel
    have HT : Hid (fin l f = fro l f (l.length - n) n) := ht
    clear ht
    by_cases hlt : n < l.length
    · obtain ⟨k, hk⟩ : ∃ k, l.length - n = k + 1 := ⟨l.length - n - 1, by omega⟩
      have hkn : k = l.length - (n + 1) := by omega
      cases he : en l f n
      · have HN : Hid (fin l f = fro l f (l.length - (n + 1)) (n + 1)) := by rw [HT.out, hk, fro, if_neg (by rw [he]; simp), hkn]; rfl
        clear hk hkn
        go_wp2_with (first | (go_at_call 51; refine (ends_any _ _ _ _ _ _ _ hs hlt hf hl hn).mono ?_; rintro e w' ⟨rfl, rfl⟩))
        go_round
        case rel => exact ⟨n + 1, by omega, by go_num, HN.out⟩
        case measure => simp [intOf]; omega
      · have HN : Hid (fin l f = n) := by rw [HT.out, hk, fro, if_pos he]; rfl
        clear hk hkn
        go_wp2_with (first | (go_at_call 51; refine (ends_any _ _ _ _ _ _ _ hs hlt hf hl hn).mono ?_; rintro e w' ⟨rfl, rfl⟩))
        go_ret
        rw [HN.out]
        exact ⟨rfl, hb⟩
    · have HN : Hid (fin l f = l.length) := by rw [HT.out, show l.length - n = 0 by omega, fro]; show n = l.length; omega
      go_wp2
      go_ret
      rw [HN.out]
      exact ⟨rfl, hb⟩

theorem cut_any (l : List UInt8) (f : Bool) (w : World) (hs : l.length ≤ 562949953421312) :
    Calls Tryd.prog 13 #[.string (mk l), .bool f] w fun e w' => e = .returned (.tuple #[.string (mk (cutT l f)), .int .i64 (fin l f)]) ∧ Below w.heap.size w w' := by
  have hsz := mk_size l
  have hle := fin_le l f
  have hex : (mk l).extract 0 (fin l f) = mk (l.take (fin l f)) := by rw [mk_ext]; simp
  have hlt : (l.take (fin l f)).length ≤ 562949953421312 := by rw [List.length_take]; omega
  go_enter Tryd.func13, Tryd.ntmps13
  go_wp2_with (first | (go_at_call 24; refine (end_any _ _ _ hs).mono ?_; rintro e W ⟨rfl, hb⟩) | (go_at_call 27; refine (trimRight_any _ _ hlt).mono ?_; rintro e w' ⟨rfl, rfl⟩))
  go_ret2
  exact ⟨rfl, hb⟩

end Go.Proofs.YtlocmdiljfkhkaaDoor.Pln
