/- strings.IndexRune at the three bytes, and strings.IndexAny's short road. -/
import Derived.Test.YtlocmdiljfkhkaaDoorPlainAny
import Derived.Laws.RangeAny
import Derived.WalkMore
import Derived.BigQuiet
import Derived.BigRegion
import Derived.Deep.QuietTactic
namespace Go.Proofs.YtlocmdiljfkhkaaDoor.Pln
open Utf Rws
open Go.RowKit
set_option linter.unusedSimpArgs false
set_option linter.unusedVariables false
set_option maxRecDepth 100000

/-- a sign's bytes above 127: the last one -/
theorem enc_last (r : Int) (h : 128 ≤ r) (h2 : r ≤ 1114111) : ∃ (q : List UInt8) (c : UInt8), Utf8.encode r = mk (q ++ [c]) ∧ (q.length = 1 ∨ q.length = 2 ∨ q.length = 3) ∧ 128 ≤ c.toNat := by
  have e0 : Utf8.encode r = Utf8.encode r := rfl
  have hl : ∀ n : Nat, 128 ≤ (UInt8.ofNat (128 + n % 64)).toNat := fun n => by rw [UInt8.toNat_ofNat']; omega
  unfold Utf8.encode
  have hc : 128 ≤ (if Utf8.valid r = true then r.toNat else Utf8.runeError) := by
    split
    · omega
    · decide
  generalize (if Utf8.valid r = true then r.toNat else Utf8.runeError) = c at hc
  simp only
  rw [if_neg (by omega)]
  by_cases h1 : c < 2048
  · rw [if_pos h1]
    exact ⟨[UInt8.ofNat (192 + c / 64)], UInt8.ofNat (128 + c % 64), rfl, .inl rfl, hl c⟩
  · rw [if_neg h1]
    by_cases h3 : c < 65536
    · rw [if_pos h3]
      exact ⟨[UInt8.ofNat (224 + c / 4096), UInt8.ofNat (128 + c / 64 % 64)], UInt8.ofNat (128 + c % 64), rfl, .inr (.inl rfl), hl c⟩
    · rw [if_neg h3]
      exact ⟨[UInt8.ofNat (240 + c / 262144), UInt8.ofNat (128 + c / 4096 % 64), UInt8.ofNat (128 + c / 64 % 64)], UInt8.ofNat (128 + c % 64), rfl, .inr (.inr rfl), hl c⟩

theorem has_c3 (b : UInt8) : has b [9, 10, 13] = c3 b := by
  unfold has c3
  simp only [List.any_cons, List.any_nil, Bool.or_false]
  rw [Bool.or_assoc]
  congr 1
  · exact Bool.beq_comm
  · congr 1 <;> exact Bool.beq_comm

/-- an ASCII sign -/
theorem rune_ascii (b : UInt8) (w : World) (h : b.toNat < 128) : Calls Tryd.prog 70 #[.string ⟨#[9, 10, 13]⟩, .int .i32 b.toNat] w fun e w' => (∃ r : Int, e = .returned (.int .i64 r) ∧ decide (0 ≤ r) = c3 b) ∧ w = w' := by
  have h0 : (0 : Int) ≤ (b.toNat : Int) := by omega
  have h1 : (b.toNat : Int) < 128 := by omega
  have HI : Hid (decide (0 ≤ idx b (⟨#[9, 10, 13]⟩ : ByteArray).data.toList) = c3 b) := by
    rw [idx_has]; exact has_c3 b
  go_enter Tryd.func70, Tryd.ntmps70
  go_wp2_with (first | (go_at_call 48; refine (indexByte_any _ b _).mono ?_; rintro e w' ⟨rfl, rfl⟩))
  go_ret
  exact ⟨⟨_, rfl, HI.out⟩, rfl⟩

/-- the sign that stands for a fault -/
theorem rune_error (w : World) : Calls Tryd.prog 70 #[.string ⟨#[9, 10, 13]⟩, .int .i32 65533] w fun e w' => e = .returned (.int .i64 (-1)) ∧ Below w.heap.size w w' := by
  have n0 := fun ty => run_next_any (P := Tryd.prog) w ⟨#[9, 10, 13]⟩ 0 ty (by decide)
  have n1 := fun ty => run_next_any (P := Tryd.prog) w ⟨#[9, 10, 13]⟩ 1 ty (by decide)
  have n2 := fun ty => run_next_any (P := Tryd.prog) w ⟨#[9, 10, 13]⟩ 2 ty (by decide)
  have n3 := fun ty => run_next_end (P := Tryd.prog) w ⟨#[9, 10, 13]⟩ 3 ty (by decide)
  rw [show Utf8.decode ⟨#[9, 10, 13]⟩ 0 = (9, 1) by decide] at n0
  rw [show Utf8.decode ⟨#[9, 10, 13]⟩ 1 = (10, 1) by decide] at n1
  rw [show Utf8.decode ⟨#[9, 10, 13]⟩ 2 = (13, 1) by decide] at n2
  go_enter Tryd.func70, Tryd.ntmps70
  go_wp2
  go_loopw [5, 6] (fun _ _ wr => ∃ n : Nat, n ≤ 3 ∧ wr = w.iter ⟨#[9, 10, 13]⟩ n) (fun _ _ wr => 3 - wr.iterPos w.heap.size)
  case atStart => exact ⟨0, by decide, rfl⟩
  case round =>
    obtain ⟨n, hn, rfl⟩ := hrel
    have h4 : n = 0 ∨ n = 1 ∨ n = 2 ∨ n = 3 := by omega
    rcases h4 with rfl | rfl | rfl | rfl
    · clear n1 n2 n3
      go_wp2
      go_roundw
      case rel => exact ⟨1, by decide, rfl⟩
      case measure => simp
    · clear n0 n2 n3
      go_wp2
      go_roundw
      case rel => exact ⟨2, by decide, rfl⟩
      case measure => simp
    · clear n0 n1 n3
      go_wp2
      go_roundw
      case rel => exact ⟨3, by decide, rfl⟩
      case measure => simp
    · clear n0 n1 n2
      go_wp2
      go_ret
      exact ⟨rfl, (Below.refl _ _).alloc (Nat.le_refl _) _⟩

theorem idx_one (c : UInt8) (h : 128 ≤ c.toNat) (l : List UInt8) (hl : ∀ b ∈ l, b.toNat < 128) : idx c l = -1 := by
  refine idx_no ?_
  unfold has
  rw [List.any_eq_false]
  intro x hx
  have := hl x hx
  simp only [beq_iff_eq]
  rintro rfl
  omega

/-- any other sign -/
theorem rune_high (r : Int) (w : World) (h : 128 ≤ r) (h2 : r ≤ 1114111) (hv : Lib.validRune r = true) (hn : r ≠ 65533) : Calls Tryd.prog 70 #[.string ⟨#[9, 10, 13]⟩, .int .i32 r] w fun e w' => e = .returned (.int .i64 (-1)) ∧ Below w.heap.size w w' := by
  obtain ⟨q, c, he, hq, hc⟩ := enc_last r h h2
  have HV : Hid (Calls Tryd.prog 82 #[.int .i32 r] w fun e w' => e = .returned (.bool true) ∧ w' = w) := by
    have := Any.utf8_ValidRune lays119 r w
    rw [hv] at this; exact this
  clear hv
  have hne : (r == 65533) = false := by simpa using hn
  have hlt : ¬ r < 128 := by omega
  have h0 : 0 ≤ r := by omega
  have hsz : (mk (q ++ [c])).size = q.length + 1 := by rw [mk_size]; simp
  have hg : ∀ h, (mk (q ++ [c]))[q.length]'h = c := fun h => by rw [mk_get]; simp
  have hx13 := idx_one c hc [13] (by decide)
  have hx0 := idx_one c hc [] (by simp)
  have hk1 : ∀ h, ((⟨#[9, 10, 13]⟩ : ByteArray)[1]'h) = 10 := fun _ => rfl
  have hk2 : ∀ h, ((⟨#[9, 10, 13]⟩ : ByteArray)[2]'h) = 13 := fun _ => rfl
  have hd10 : ((10 : Int) == (c.toNat : Int)) = false := by rw [beq_eq_false_iff_ne]; omega
  have hd13 : ((13 : Int) == (c.toNat : Int)) = false := by rw [beq_eq_false_iff_ne]; omega
  have hn10 : ((10 : Int) != (c.toNat : Int)) = true := by rw [bne_iff_ne]; omega
  have hn13 : ((13 : Int) != (c.toNat : Int)) = true := by rw [bne_iff_ne]; omega
  rcases hq with hq | hq | hq
  · rw [hq] at hsz hg
    have HI : Hid (∀ w, Calls Tryd.prog 48 #[.string ⟨#[13]⟩, .int .u8 (c.toNat : Int)] w fun e w' => e = .returned (.int .i64 (-1)) ∧ w' = w) := fun w => (indexByte_any ⟨#[13]⟩ c w).mono (by
      rintro e w' ⟨rfl, rfl⟩
      exact ⟨by rw [show (⟨#[13]⟩ : ByteArray).data.toList = [13] from rfl, hx13], rfl⟩)
    have hex : (⟨#[9, 10, 13]⟩ : ByteArray).extract 2 3 = ⟨#[13]⟩ := by decide
    have hw2 : IntKind.i64.wrap 2 = 2 := by decide
    go_enter Tryd.func70, Tryd.ntmps70
    go_wp2_with (first | (go_at_call 82; refine HV.out.mono ?_; rintro e w' ⟨rfl, rfl⟩))
    go_step3
    go_wp2
    go_loop [9] (fun i => i = .int .i64 1) (fun _ => 0)
    case atStart => exact rfl
    case round =>
      obtain rfl := hrel
      go_wp2
      go_step3
      go_wp2
      go_region
      all_goals go_wp2
      go_quiet (exact (HI.out _).mono (fun _ _ ⟨he, hm⟩ => ⟨he, _, hm⟩))
      go_wp2
      rw [Exit.noGoto_ret]
      simp only [Exit.inBlock]
      rename_i Q5 _ _ _ _ _
      simp only [Q5, Exit.then, Exit.inBlock, Exit.noGoto_ret]
      go_ret
      exact ⟨rfl, ⟨rfl, rfl, rfl, Nat.le_refl _, fun _ _ => rfl⟩⟩
  · rw [hq] at hsz hg
    have HI : Hid (∀ w, Calls Tryd.prog 48 #[.string ⟨#[]⟩, .int .u8 (c.toNat : Int)] w fun e w' => e = .returned (.int .i64 (-1)) ∧ w' = w) := fun w => (indexByte_any ⟨#[]⟩ c w).mono (by
      rintro e w' ⟨rfl, rfl⟩
      exact ⟨by rw [show (⟨#[]⟩ : ByteArray).data.toList = [] from rfl, hx0], rfl⟩)
    have hex : (⟨#[9, 10, 13]⟩ : ByteArray).extract 3 3 = ⟨#[]⟩ := by decide
    have hw2 : IntKind.i64.wrap 3 = 3 := by decide
    go_enter Tryd.func70, Tryd.ntmps70
    go_wp2_with (first | (go_at_call 82; refine HV.out.mono ?_; rintro e w' ⟨rfl, rfl⟩))
    go_step3
    go_wp2
    go_loop [9] (fun i => i = .int .i64 2) (fun _ => 0)
    case atStart => exact rfl
    case round =>
      obtain rfl := hrel
      go_wp2
      go_step3
      go_wp2
      go_region
      all_goals go_wp2
      go_quiet (exact (HI.out _).mono (fun _ _ ⟨he, hm⟩ => ⟨he, _, hm⟩))
      go_wp2
      rw [Exit.noGoto_ret]
      simp only [Exit.inBlock]
      rename_i Q5 _ _ _ _ _
      simp only [Q5, Exit.then, Exit.inBlock, Exit.noGoto_ret]
      go_ret
      exact ⟨rfl, ⟨rfl, rfl, rfl, Nat.le_refl _, fun _ _ => rfl⟩⟩
  · rw [hq] at hsz hg
    go_enter Tryd.func70, Tryd.ntmps70
    go_wp2_with (first | (go_at_call 82; refine HV.out.mono ?_; rintro e w' ⟨rfl, rfl⟩))
    go_step3
    go_wp2
    go_loop [9] (fun i => i = .int .i64 3) (fun _ => 0)
    case atStart => exact rfl
    case round =>
      obtain rfl := hrel
      go_wp2
      go_ret
      exact ⟨rfl, ⟨rfl, rfl, rfl, Nat.le_refl _, fun _ _ => rfl⟩⟩

end Go.Proofs.YtlocmdiljfkhkaaDoor.Pln
