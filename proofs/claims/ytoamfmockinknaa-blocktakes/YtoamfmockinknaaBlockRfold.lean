/- The reference's flat and Fold, by their contracts. -/
import Derived.Test.YtoamfmockinknaaBlockMem
import Derived.Test.YtoamfmockinknaaBlockMuch
namespace Go.Proofs.Ytoamfmockinknaa.Blk
open Go.RowKit
open Rws (mk mk_data mk_size mk_of mk_ext mk_get mk_inj)
set_option linter.unusedSimpArgs false
set_option linter.unusedVariables false
set_option maxRecDepth 100000

theorem mk_appR (a b : Ln) : mk a ++ mk b = mk (a ++ b) := by
  apply ByteArray.ext
  rw [ByteArray.data_append]
  simp [mk]
theorem b32 (y : UInt8) : ((y.toNat : Int) == 32) = (y == 32) := by
  rw [Bool.eq_iff_iff]
  simp only [beq_iff_eq]
  constructor
  · intro h; apply UInt8.toNat_inj.1; have : y.toNat = 32 := by omega
    rw [this]; rfl
  · rintro rfl; rfl
theorem rflat_any (x : Ln) (w : World) : Calls Try.prog 25 #[.string (mk x)] w fun e w' => e = .returned (.bool (flat x)) ∧ w = w' := by
  cases x with
  | nil =>
    rw [show mk [] = (⟨#[]⟩ : ByteArray) from rfl]
    go_enter Try.func25, Try.ntmps25
    go_wp2
    go_ret
    exact ⟨rfl, rfl⟩
  | cons y t =>
    have hq : ((mk (y :: t)).toList == []) = false := by rw [mk_nil_eq]; simp
    have hsz : (mk (y :: t)).size = t.length + 1 := by rw [mk_size]; rfl
    have hg : ∀ h, (mk (y :: t))[0]'h = y := fun h => by rw [mk_get]; rfl
    have hb32 := b32 y
    have HF : Hid (flat (y :: t) = !(y == 32)) := rfl
    cases hy : (y == 32)
    · rw [hy] at hb32 HF
      go_enter Try.func25, Try.ntmps25
      go_wp2
      go_ret
      refine ⟨?_, rfl⟩
      rw [HF.out]
      simp [bne, hb32]
    · rw [hy] at hb32 HF
      go_enter Try.func25, Try.ntmps25
      go_wp2
      go_ret
      refine ⟨?_, rfl⟩
      rw [HF.out]
      simp [bne, hb32]

theorem sep_end (x : Ln) (e : Nat) : sep x (List.replicate e []) = [10] := by
  unfold sep
  rw [drop_emps]
theorem sep_val (x z : Ln) (e : Nat) (r : List Ln) (hz : z ≠ []) : sep x (List.replicate e [] ++ z :: r) = if (flat x && flat z) = true then (if e = 0 then [32] else []) else [10] := by
  unfold sep
  rw [drop_emp e z r hz]
  cases e with
  | zero =>
    cases z with
    | nil => exact absurd rfl hz
    | cons b t => simp
  | succ e =>
    rw [List.replicate_succ, List.cons_append]
    simp
theorem fld_step (x : Ln) (r : List Ln) (h : r ≠ []) : fld (x :: r) = x ++ sep x r ++ fld r := by
  cases r with
  | nil => exact absurd rfl h
  | cons y t => exact fld_cons x y t

set_option maxHeartbeats 4000000 in
theorem rfold_any (a : Option Addr) (len cap : Nat) (xs : List Ln) (w : World) (h : StrsAt w a len xs) (hl : len ≤ 140737488355327) (hb : (fld xs).length ≤ 140737488355328) :
    Calls Try.prog 16 #[.slice a len cap] w fun e w' => e = .returned (.string (mk (fld xs))) ∧ Below w.heap.size w w' := by
  have HZ : Hid (StrsAt w a len xs) := h
  clear h
  go_enter Try.func16, Try.ntmps16
  go_wp2
  go_loop [3, 4] (fun ut ui => ∃ (k : Nat) (T : Ln), k ≤ len ∧ ui = .int .i64 (k : Int) ∧ ut = .string (mk T) ∧ fld xs = T ++ fld (xs.drop k)) (fun _ ui => len - (intOf ui).toNat)
  case atStart => exact ⟨0, [], Nat.zero_le _, rfl, rfl, rfl⟩
  case round =>
    obtain ⟨k, T, hk, rfl, rfl, hT⟩ := hrel
    have HT : Hid (fld xs = T ++ fld (xs.drop k)) := hT
    clear hT
    by_cases hlt : k < len
    · obtain ⟨b, off, rfl, hbb, hcc⟩ := HZ.out.2 (by omega)
      have HCC : Hid (∀ i, i < len → w.cell? ⟨b, off + i, none⟩ = some (.string (mk (xs.getD i [])))) := hcc
      have c0 := hcc k hlt
      have hkx : k < xs.length := by rw [← HZ.out.1]; omega
      have HD : Hid (xs.drop k = xs.getD k [] :: xs.drop (k + 1)) := drop_getD xs k hkx
      obtain ⟨x, hx⟩ : ∃ x, x = xs.getD k [] := ⟨_, rfl⟩
      rw [← hx] at c0 HD
      clear hcc hkx hx
      obtain ⟨Y, HY⟩ : ∃ Y, Hid (Y = T ++ x) := ⟨_, rfl⟩
      have hap : mk T ++ mk x = mk Y := by rw [HY.out]; exact mk_appR T x
      have hYs : (mk Y).size = T.length + x.length := by rw [mk_size, HY.out, List.length_append]
      have hTs : (mk T).size = T.length := mk_size T
      have hxs : (mk x).size = x.length := mk_size x
      have hTx : T.length + x.length ≤ 140737488355328 := by
        have h1 := hb
        rw [HT.out, HD.out, List.length_append] at h1
        cases hr : xs.drop (k + 1) with
        | nil => rw [hr] at h1; simp only [fld] at h1; exact h1
        | cons y t => rw [hr, fld_cons, List.length_append, List.length_append] at h1; omega
      by_cases hlast : k + 1 = len
      · have HE : Hid (fld xs = T ++ x) := by rw [HT.out, HD.out, List.drop_of_length_le (by rw [← HZ.out.1]; omega)]; exact rfl
        have hle : ((k : Int) == (len : Int) - 1) = true := by simp; omega
        clear HT HD
        go_wp2
        go_ret
        rw [HE.out, ← HY.out]
        exact ⟨rfl, Below.refl _ _⟩
      · have hle : ((k : Int) == (len : Int) - 1) = false := by simp; omega
        have HDN : Hid (xs.drop (k + 1) ≠ []) := by intro e; have := congrArg List.length e; rw [List.length_drop, ← HZ.out.1] at this; simp at this; omega
        go_wp2
        go_loop [5] (fun un => ∃ n : Nat, k + 1 ≤ n ∧ n ≤ len ∧ un = .int .i64 (n : Int) ∧ xs.drop (k + 1) = List.replicate (n - (k + 1)) [] ++ xs.drop n) (fun un => len - (intOf un).toNat)
        case atStart => exact ⟨k + 1, Nat.le_refl _, by omega, by go_num, by rw [Nat.sub_self]; rfl⟩
        case round =>
          obtain ⟨n, hn1, hn2, rfl, hR⟩ := hrel
          have HR : Hid (xs.drop (k + 1) = List.replicate (n - (k + 1)) [] ++ xs.drop n) := hR
          clear hR
          by_cases hnl : n < len
          · have d0 := HCC.out n hnl
            have HDZ : Hid (xs.drop n = xs.getD n [] :: xs.drop (n + 1)) := drop_getD xs n (by rw [← HZ.out.1]; omega)
            obtain ⟨z, hz⟩ : ∃ z, z = xs.getD n [] := ⟨_, rfl⟩
            rw [← hz] at d0 HDZ
            clear hz
            by_cases hz0 : z = []
            · have HRN : Hid (xs.drop (k + 1) = List.replicate (n + 1 - (k + 1)) [] ++ xs.drop (n + 1)) := by
                rw [HR.out, HDZ.out, hz0, rep_cons, show n - (k + 1) + 1 = n + 1 - (k + 1) by omega]
                exact rfl
              rw [hz0, show mk [] = (⟨#[]⟩ : ByteArray) from rfl] at d0
              go_wp2
              go_round
              case rel => exact ⟨n + 1, by omega, by omega, by go_num, HRN.out⟩
              case measure => (simp [intOf] <;> omega)
            · have hzq : ((mk z).toList == []) = false := by rw [mk_nil_eq]; simpa using hz0
              have HSV : Hid (sep x (xs.drop (k + 1)) = if (flat x && flat z) = true then (if n - (k + 1) = 0 then [32] else []) else [10]) := by rw [HR.out, HDZ.out, sep_val x z _ _ hz0]; exact rfl
              have hb2 := hb
              rw [HT.out, HD.out, fld_step x _ HDN.out, List.length_append, List.length_append, List.length_append, HSV.out] at hb2
              cases hfx : flat x
              · rw [hfx] at hb2
                simp at hb2
                have HN : Hid (fld xs = (Y ++ [10]) ++ fld (xs.drop (k + 1))) := by
                  rw [HT.out, HD.out, fld_step x _ HDN.out, HY.out]
                  rw [show sep x (xs.drop (k + 1)) = [10] from by rw [HSV.out, hfx]; rfl]
                  simp [Hid]
                have hsp : mk Y ++ (⟨#[10]⟩ : ByteArray) = mk (Y ++ [10]) := mk_appR Y [10]
                have hone : (⟨#[10]⟩ : ByteArray).size = 1 := rfl
                clear HT HD
                go_wp2_with (first | (go_at_call 25; refine (rflat_any _ _).mono ?_; rintro e w' ⟨rfl, rfl⟩))
                go_round
                case rel => exact ⟨k + 1, (Y ++ [10]), by omega, by go_num, rfl, HN.out⟩
                case measure => (simp [intOf] <;> omega)
              · cases hfz : flat z
                · rw [hfx, hfz] at hb2
                  simp at hb2
                  have HN : Hid (fld xs = (Y ++ [10]) ++ fld (xs.drop (k + 1))) := by
                    rw [HT.out, HD.out, fld_step x _ HDN.out, HY.out]
                    rw [show sep x (xs.drop (k + 1)) = [10] from by rw [HSV.out, hfx, hfz]; rfl]
                    simp [Hid]
                  have hsp : mk Y ++ (⟨#[10]⟩ : ByteArray) = mk (Y ++ [10]) := mk_appR Y [10]
                  have hone : (⟨#[10]⟩ : ByteArray).size = 1 := rfl
                  clear HT HD
                  go_wp2_with (first | (go_at_call 25; refine (rflat_any _ _).mono ?_; rintro e w' ⟨rfl, rfl⟩))
                  go_round
                  case rel => exact ⟨k + 1, (Y ++ [10]), by omega, by go_num, rfl, HN.out⟩
                  case measure => (simp [intOf] <;> omega)
                · rw [hfx, hfz] at hb2
                  by_cases hnk : n = k + 1
                  · have hne : ((n : Int) == (k : Int) + 1) = true := by simp; omega
                    rw [if_pos (by rfl), if_pos (by omega)] at hb2
                    simp at hb2
                    have HN : Hid (fld xs = (Y ++ [32]) ++ fld (xs.drop (k + 1))) := by
                      rw [HT.out, HD.out, fld_step x _ HDN.out, HY.out]
                      rw [show sep x (xs.drop (k + 1)) = [32] from by rw [HSV.out, hfx, hfz, if_pos (by rfl), if_pos (by omega)]]
                      simp [Hid]
                    have hsp : mk Y ++ (⟨#[32]⟩ : ByteArray) = mk (Y ++ [32]) := mk_appR Y [32]
                    have hone : (⟨#[32]⟩ : ByteArray).size = 1 := rfl
                    clear HT HD hnk
                    go_wp2_with (first | (go_at_call 25; refine (rflat_any _ _).mono ?_; rintro e w' ⟨rfl, rfl⟩))
                    go_round
                    case rel => exact ⟨k + 1, (Y ++ [32]), by omega, by go_num, rfl, HN.out⟩
                    case measure => (simp [intOf] <;> omega)
                  · have hne : ((n : Int) == (k : Int) + 1) = false := by simp; omega
                    have HN : Hid (fld xs = Y ++ fld (xs.drop (k + 1))) := by
                      rw [HT.out, HD.out, fld_step x _ HDN.out, HY.out]
                      rw [show sep x (xs.drop (k + 1)) = [] from by rw [HSV.out, hfx, hfz, if_pos (by rfl), if_neg (by omega)]]
                      simp [Hid]
                    clear HT HD
                    go_wp2_with (first | (go_at_call 25; refine (rflat_any _ _).mono ?_; rintro e w' ⟨rfl, rfl⟩))
                    go_round
                    case rel => exact ⟨k + 1, Y, by omega, by go_num, rfl, HN.out⟩
                    case measure => (simp [intOf] <;> omega)
          · have HSV : Hid (sep x (xs.drop (k + 1)) = [10]) := by rw [HR.out, List.drop_of_length_le (i := n) (by rw [← HZ.out.1]; omega), List.append_nil, sep_end]; exact rfl
            have hb2 := hb
            rw [HT.out, HD.out, fld_step x _ HDN.out, List.length_append, List.length_append, List.length_append, HSV.out] at hb2
            simp at hb2
            cases hfx : flat x
            · have HN : Hid (fld xs = (Y ++ [10]) ++ fld (xs.drop (k + 1))) := by
                rw [HT.out, HD.out, fld_step x _ HDN.out, HY.out]
                rw [show sep x (xs.drop (k + 1)) = [10] from HSV.out]
                simp [Hid]
              have hsp : mk Y ++ (⟨#[10]⟩ : ByteArray) = mk (Y ++ [10]) := mk_appR Y [10]
              have hone : (⟨#[10]⟩ : ByteArray).size = 1 := rfl
              clear HT HD
              go_wp2_with (first | (go_at_call 25; refine (rflat_any _ _).mono ?_; rintro e w' ⟨rfl, rfl⟩))
              go_round
              case rel => exact ⟨k + 1, (Y ++ [10]), by omega, by go_num, rfl, HN.out⟩
              case measure => (simp [intOf] <;> omega)
            · have HN : Hid (fld xs = (Y ++ [10]) ++ fld (xs.drop (k + 1))) := by
                rw [HT.out, HD.out, fld_step x _ HDN.out, HY.out]
                rw [show sep x (xs.drop (k + 1)) = [10] from HSV.out]
                simp [Hid]
              have hsp : mk Y ++ (⟨#[10]⟩ : ByteArray) = mk (Y ++ [10]) := mk_appR Y [10]
              have hone : (⟨#[10]⟩ : ByteArray).size = 1 := rfl
              clear HT HD
              go_wp2_with (first | (go_at_call 25; refine (rflat_any _ _).mono ?_; rintro e w' ⟨rfl, rfl⟩))
              go_round
              case rel => exact ⟨k + 1, (Y ++ [10]), by omega, by go_num, rfl, HN.out⟩
              case measure => (simp [intOf] <;> omega)
    · have HE : Hid (fld xs = T) := by rw [HT.out, List.drop_of_length_le (by rw [← HZ.out.1]; omega)]; simp [fld, Hid]
      clear HT
      go_wp2
      go_ret
      rw [HE.out]
      exact ⟨rfl, Below.refl _ _⟩

end Go.Proofs.Ytoamfmockinknaa.Blk
