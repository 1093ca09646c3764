/- grommetlaw06.PlainAhead, by the contracts of what it calls. -/
import Derived.Test.YtlocmdiljfkhkaaDoorPlainAlive
namespace Go.Proofs.YtlocmdiljfkhkaaDoor.Pln
open Utf Rws
open Go.RowKit
set_option linter.unusedSimpArgs false
set_option linter.unusedVariables false
set_option maxRecDepth 100000

theorem app_mk (a b : List UInt8) : mk a ++ mk b = mk (a ++ b) := by
  apply ByteArray.ext
  simp [mk]
theorem app_c (a : List UInt8) : mk a ++ ⟨#[58, 32]⟩ = mk (a ++ [58, 32]) := app_mk a [58, 32]

set_option maxHeartbeats 4000000 in
theorem ahead_any (s t : ByteArray) (f : Bool) (w : World) (hs : s.size ≤ 140737488351232) (ht : t.size ≤ 140737488351232) (hT : Tabs w) : Calls Tryd.prog 7 #[.string s, .string t, .bool f] w fun e w' => e = .returned (.bool true) ∧ Below w.heap.size w w' := by
  obtain ⟨l, rfl⟩ := mk_ex s
  obtain ⟨m, rfl⟩ := mk_ex t
  rw [mk_size] at hs ht
  have hsz := mk_size l
  have hsm := mk_size m
  have HC1 : Hid (∀ w, Calls Tryd.prog 13 #[.string (mk l), .bool f] w fun e w' => e = .returned (.tuple #[.string (mk (cutT l f)), .int .i64 (fin l f)]) ∧ Below w.heap.size w w') := fun w => cut_any l f w (by omega)
  have hf1 := fin_le l f
  have hf2 := cutT_len l f
  have hex := cutT_ext l f
  have hag := cut_again l f
  have HC2 : Hid (∀ w, Calls Tryd.prog 13 #[.string (mk (cutT l f)), .bool f] w fun e w' => e = .returned (.tuple #[.string (mk (cutT (cutT l f) f)), .int .i64 (fin (cutT l f) f)]) ∧ Below w.heap.size w w') := fun w => cut_any (cutT l f) f w (by omega)
  have hxm : (mk l).extract 0 (cutT l f).length = mk (cutT l f) := by
    rw [mk_ext, List.drop_zero, Nat.sub_zero, ← hex]
  clear hex
  generalize cutT l f = a at HC1 HC2 hf2 hag hxm
  generalize fin l f = n at HC1 hf1 hf2
  have hsa := mk_size a
  have hle : (n : Int) ≤ (l.length : Int) := by omega
  have hle2 : (a.length : Int) ≤ (n : Int) := by omega
  have hal : a.length ≤ l.length := by omega
  have hself : ((mk a).toList == (mk a).toList) = true := by simp
  have hselfm : ((mk m).toList == (mk m).toList) = true := by simp
  obtain ⟨A, HA⟩ : ∃ A, Hid (A = m ++ [58, 32]) := ⟨m ++ [58, 32], rfl⟩
  obtain ⟨J, HJ⟩ : ∃ J, Hid (J = A ++ l) := ⟨A ++ l, rfl⟩
  have hA : mk m ++ ⟨#[58, 32]⟩ = mk A := by rw [HA.out]; exact app_c m
  have hJ : mk A ++ mk l = mk J := by rw [HJ.out]; exact app_mk A l
  have hzA : (mk A).size = m.length + 2 := by rw [mk_size, HA.out]; simp
  have hI := fun w => is_any m f w ht
  have hC3 : isP m f = true → ∀ w, Calls Tryd.prog 13 #[.string (mk J), .bool f] w fun e w' => e = .returned (.tuple #[.string (mk m), .int .i64 m.length]) ∧ Below w.heap.size w w' := fun hp w => by
    have h := cut_any J f w (by rw [HJ.out, HA.out]; simp; omega)
    have hc := cut_ahead m l f hp
    rw [HJ.out, HA.out] at h ⊢
    rw [hc.1, hc.2] at h
    exact h
  clear HA HJ
  rcases hag with ⟨g1, g2⟩ | ⟨g0, g2, g3⟩
  · rw [g1, g2] at HC2
    clear g1 g2
    cases hp : isP m f
    · have HI : Hid (∀ w, Calls Tryd.prog 10 #[.string (mk m), .bool f] w fun e w' => e = .returned (.bool false) ∧ Below w.heap.size w w') := by rw [← hp]; exact hI
      clear hp hI hC3 hA hJ
      go_enter Tryd.func7, Tryd.ntmps7
      go_wp2_with fail
      refine (HC1.out _).mono ?_
      rintro e w1 ⟨rfl, hb1⟩
      go_wp2_with fail
      refine (HC2.out _).mono ?_
      rintro e w2 ⟨rfl, hb2⟩
      have b2 := hb1.trans (hb2.mono hb1.size)
      go_wp2_with fail
      refine (HI.out _).mono ?_
      rintro e w3 ⟨rfl, hb3⟩
      have b3 := b2.trans (hb3.mono b2.size)
      go_wp2_with fail
      refine (alive_any _ (hT.later b3)).mono ?_
      rintro e w4 ⟨rfl, hb4⟩
      go_wp2
      go_ret
      exact ⟨rfl, b3.trans (hb4.mono b3.size)⟩
    · have HI : Hid (∀ w, Calls Tryd.prog 10 #[.string (mk m), .bool f] w fun e w' => e = .returned (.bool true) ∧ Below w.heap.size w w') := by rw [← hp]; exact hI
      have HC3 : Hid (∀ w, Calls Tryd.prog 13 #[.string (mk J), .bool f] w fun e w' => e = .returned (.tuple #[.string (mk m), .int .i64 m.length]) ∧ Below w.heap.size w w') := hC3 hp
      clear hp hI hC3
      go_enter Tryd.func7, Tryd.ntmps7
      go_wp2_with fail
      refine (HC1.out _).mono ?_
      rintro e w1 ⟨rfl, hb1⟩
      go_wp2_with fail
      refine (HC2.out _).mono ?_
      rintro e w2 ⟨rfl, hb2⟩
      have b2 := hb1.trans (hb2.mono hb1.size)
      go_wp2_with fail
      refine (HI.out _).mono ?_
      rintro e w3 ⟨rfl, hb3⟩
      have b3 := b2.trans (hb3.mono b2.size)
      go_wp2_with fail
      refine (HC3.out _).mono ?_
      rintro e w4 ⟨rfl, hb4⟩
      have b4 := b3.trans (hb4.mono b3.size)
      go_wp2_with fail
      refine (alive_any _ (hT.later b4)).mono ?_
      rintro e w5 ⟨rfl, hb5⟩
      go_wp2
      go_ret
      exact ⟨rfl, b4.trans (hb5.mono b4.size)⟩
  · obtain ⟨q, hq⟩ : ∃ q, a.length = q + 1 := ⟨a.length - 1, by have := List.length_pos_iff.2 g0; omega⟩
    rw [hq] at hsa hle2 hal hxm g2 g3
    rw [show q + 1 - 1 = q by omega] at g2 g3
    rw [g2] at HC2
    have hgl : ∀ h, (mk a)[q]'h = 58 := fun h => by rw [mk_getD]; exact g3
    have hqa : (((q : Nat) : Int) == ((q : Int) + 1)) = false := by rw [beq_eq_false_iff_ne]; omega
    have hqn : (((q : Nat) : Int) != ((q : Int) + 1)) = true := by rw [bne_iff_ne]; omega
    clear g0 g2 g3 hq
    obtain ⟨V, hV⟩ : ∃ V, ((mk (cutT a f)).toList == (mk a).toList) = V := ⟨_, rfl⟩
    generalize mk (cutT a f) = C at HC2 hV
    cases V
    · cases hp : isP m f
      · have HI : Hid (∀ w, Calls Tryd.prog 10 #[.string (mk m), .bool f] w fun e w' => e = .returned (.bool false) ∧ Below w.heap.size w w') := by rw [← hp]; exact hI
        clear hp hI hC3 hA hJ
        go_enter Tryd.func7, Tryd.ntmps7
        go_wp2_with fail
        refine (HC1.out _).mono ?_
        rintro e w1 ⟨rfl, hb1⟩
        go_wp2_with fail
        refine (HC2.out _).mono ?_
        rintro e w2 ⟨rfl, hb2⟩
        have b2 := hb1.trans (hb2.mono hb1.size)
        go_wp2_with fail
        refine (HI.out _).mono ?_
        rintro e w3 ⟨rfl, hb3⟩
        have b3 := b2.trans (hb3.mono b2.size)
        go_wp2_with fail
        refine (alive_any _ (hT.later b3)).mono ?_
        rintro e w4 ⟨rfl, hb4⟩
        go_wp2
        go_ret
        exact ⟨rfl, b3.trans (hb4.mono b3.size)⟩
      · have HI : Hid (∀ w, Calls Tryd.prog 10 #[.string (mk m), .bool f] w fun e w' => e = .returned (.bool true) ∧ Below w.heap.size w w') := by rw [← hp]; exact hI
        have HC3 : Hid (∀ w, Calls Tryd.prog 13 #[.string (mk J), .bool f] w fun e w' => e = .returned (.tuple #[.string (mk m), .int .i64 m.length]) ∧ Below w.heap.size w w') := hC3 hp
        clear hp hI hC3
        go_enter Tryd.func7, Tryd.ntmps7
        go_wp2_with fail
        refine (HC1.out _).mono ?_
        rintro e w1 ⟨rfl, hb1⟩
        go_wp2_with fail
        refine (HC2.out _).mono ?_
        rintro e w2 ⟨rfl, hb2⟩
        have b2 := hb1.trans (hb2.mono hb1.size)
        go_wp2_with fail
        refine (HI.out _).mono ?_
        rintro e w3 ⟨rfl, hb3⟩
        have b3 := b2.trans (hb3.mono b2.size)
        go_wp2_with fail
        refine (HC3.out _).mono ?_
        rintro e w4 ⟨rfl, hb4⟩
        have b4 := b3.trans (hb4.mono b3.size)
        go_wp2_with fail
        refine (alive_any _ (hT.later b4)).mono ?_
        rintro e w5 ⟨rfl, hb5⟩
        go_wp2
        go_ret
        exact ⟨rfl, b4.trans (hb5.mono b4.size)⟩
    · cases hp : isP m f
      · have HI : Hid (∀ w, Calls Tryd.prog 10 #[.string (mk m), .bool f] w fun e w' => e = .returned (.bool false) ∧ Below w.heap.size w w') := by rw [← hp]; exact hI
        clear hp hI hC3 hA hJ
        go_enter Tryd.func7, Tryd.ntmps7
        go_wp2_with fail
        refine (HC1.out _).mono ?_
        rintro e w1 ⟨rfl, hb1⟩
        go_wp2_with fail
        refine (HC2.out _).mono ?_
        rintro e w2 ⟨rfl, hb2⟩
        have b2 := hb1.trans (hb2.mono hb1.size)
        go_wp2_with fail
        refine (HI.out _).mono ?_
        rintro e w3 ⟨rfl, hb3⟩
        have b3 := b2.trans (hb3.mono b2.size)
        go_wp2_with fail
        refine (alive_any _ (hT.later b3)).mono ?_
        rintro e w4 ⟨rfl, hb4⟩
        go_wp2
        go_ret
        exact ⟨rfl, b3.trans (hb4.mono b3.size)⟩
      · have HI : Hid (∀ w, Calls Tryd.prog 10 #[.string (mk m), .bool f] w fun e w' => e = .returned (.bool true) ∧ Below w.heap.size w w') := by rw [← hp]; exact hI
        have HC3 : Hid (∀ w, Calls Tryd.prog 13 #[.string (mk J), .bool f] w fun e w' => e = .returned (.tuple #[.string (mk m), .int .i64 m.length]) ∧ Below w.heap.size w w') := hC3 hp
        clear hp hI hC3
        go_enter Tryd.func7, Tryd.ntmps7
        go_wp2_with fail
        refine (HC1.out _).mono ?_
        rintro e w1 ⟨rfl, hb1⟩
        go_wp2_with fail
        refine (HC2.out _).mono ?_
        rintro e w2 ⟨rfl, hb2⟩
        have b2 := hb1.trans (hb2.mono hb1.size)
        go_wp2_with fail
        refine (HI.out _).mono ?_
        rintro e w3 ⟨rfl, hb3⟩
        have b3 := b2.trans (hb3.mono b2.size)
        go_wp2_with fail
        refine (HC3.out _).mono ?_
        rintro e w4 ⟨rfl, hb4⟩
        have b4 := b3.trans (hb4.mono b3.size)
        go_wp2_with fail
        refine (alive_any _ (hT.later b4)).mono ?_
        rintro e w5 ⟨rfl, hb5⟩
        go_wp2
        go_ret
        exact ⟨rfl, b4.trans (hb5.mono b4.size)⟩

end Go.Proofs.YtlocmdiljfkhkaaDoor.Pln
