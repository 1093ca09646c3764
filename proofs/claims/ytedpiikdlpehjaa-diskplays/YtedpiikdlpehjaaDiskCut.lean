/- cut. -/
import Derived.Test.YtedpiikdlpehjaaDiskOps5
import Derived.BigRegion
namespace Go.Proofs.Ytedpiikdlpehjaa.Dsk
open Go Go.RowKit Go.Maps
set_option linter.unusedSimpArgs false
set_option linter.unusedVariables false

theorem Held.take {w : World} {a : Option Addr} {c : Nat} {l : List UInt8} (h : Held w (.slice a l.length c) l) (k : Nat) (hk : k ≤ l.length) : Held w (.slice a k k) (l.take k) := by
  rcases h with ⟨q, rfl⟩ | ⟨g, cap, cur, q, hr, h1, h2, h3, h4⟩
  · have hk0 : k = 0 := by simpa using hk
    subst hk0
    cases q
    exact .inl ⟨rfl, rfl⟩
  · cases q
    refine .inr ⟨g, k, cur, by rw [List.length_take, Nat.min_eq_left hk], hr, by rw [List.length_take]; omega, by omega, by omega, ?_⟩
    rw [List.length_take, Nat.min_eq_left hk, byC_take, ← h4, List.take_take, Nat.min_eq_left hk]
set_option maxHeartbeats 1000000 in
theorem cut_any (b : Nat) (a : Option Addr) (c : Nat) (f : Fl) (more : Int) (w : World) (hr : Row w b 81 [.slice a f.data.length c, .int .i64 f.kept]) (hc : f.data.length ≤ c) (hk : f.kept ≤ f.data.length) (hl : f.data.length ≤ 1048576) (hcm : c ≤ maxLen) :
    Calls Try.prog 50 #[.pointer (some ⟨b, 0, none⟩), .int .i64 more] w fun e w' => e = .returned (.tuple #[]) ∧ Row w' b 81 [.slice a (f.more more) (f.more more), .int .i64 (f.more more)] ∧ Only (· = b) w w' := by
  have hc0 : w.cell? ⟨b, 0, none⟩ = some (.slice a f.data.length c) := hr.cell 0
  have hc1 : w.cell? ⟨b, 1, none⟩ = some (.int .i64 f.kept) := hr.cell 1
  have hf0 := hr.free 0
  have hf1 := hr.free 1
  have HR : Hid (Row w b 81 [.slice a f.data.length c, .int .i64 f.kept]) := hr
  obtain ⟨len, HL⟩ : ∃ x, Hid (x = f.data.length) := ⟨_, rfl⟩
  obtain ⟨kp, HK⟩ : ∃ x, Hid (x = f.kept) := ⟨_, rfl⟩
  obtain ⟨q, HQ⟩ : ∃ x, Hid (x = f.more more) := ⟨_, rfl⟩
  have HQ2 : Hid ((q : Int) = kp + min (max more 0) ((len : Int) - kp)) := by
    show _ = _
    rw [HQ.out, HL.out, HK.out, Fl.more]
    omega
  rw [← HL.out] at hc0 hc hk hl HR
  rw [← HK.out] at hc1 hk HR
  rw [← HQ.out]
  unfold maxLen at hcm
  clear hr
  go_enter Try.func50, Try.ntmps50
  go_wp2_with fail
  go_region
  rw [← HQ2.out]
  obtain ⟨W, HW⟩ : ∃ W, Hid (W = (w.setCell ⟨b, 1, none⟩ (.int .i64 q)).drew) := ⟨_, rfl⟩
  rw [← HW.out]
  have HR2 : Hid (Row W b 81 [.slice a len c, .int .i64 q]) := by rw [HW.out]; exact Row.at_ (HR.out.set 1 (.int .i64 q)) rfl
  have HO2 : Hid (Only (· = b) w W) := by rw [HW.out]; exact (Only.setCell (F := (· = b)) (p := ⟨b, 1, none⟩) (Only.refl _ w) (.inl rfl) _).drew
  have hql : q ≤ len := by have := HQ2.out; omega
  have hqc : q ≤ c := by omega
  have hqi : (q : Int) ≤ (c : Int) := by omega
  clear hc0 hc1 hf0 hf1 HW HR
  have hc0 : W.cell? ⟨b, 0, none⟩ = some (.slice a len c) := HR2.out.cell 0
  have hc1 : W.cell? ⟨b, 1, none⟩ = some (.int .i64 q) := HR2.out.cell 1
  have hf0 := HR2.out.free 0
  go_wp2_with fail
  go_region
  go_end0
  exact ⟨rfl, Row.at_ (HR2.out.set 0 (.slice a q q)) rfl, (Only.setCell (F := (· = b)) (p := ⟨b, 0, none⟩) HO2.out (.inl rfl) _).drew⟩
end Go.Proofs.Ytedpiikdlpehjaa.Dsk
