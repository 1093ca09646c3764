/- The reference's begins and Next. -/
import Derived.Test.YthmoapigjafijaaFrameStep
import Derived.Test.YthmoapigjafijaaFrameNext
import Derived.Test.YthmoapigjafijaaCrcRef
namespace Go.Proofs.Ythmoapigjafijaa.Frm
open Go.RowKit Crc
set_option linter.unusedSimpArgs false
set_option linter.unusedVariables false

theorem below_drewN' {w w' : World} {B : Nat} (h : Below B w w') (k : Nat) : Below B w (w'.drewN k) := ⟨h.os, h.tape, h.output, h.size, h.block⟩
theorem magic_at (k : Nat) (h : k < 4) : (⟨#[89, 82, 69, 67]⟩ : ByteArray).data[k]'(by simpa using h) = magic.getD k 0 := by
  match k, h with
  | 0, _ => rfl
  | 1, _ => rfl
  | 2, _ => rfl
  | 3, _ => rfl
theorem beg_iff (l : List UInt8) : beg l = true ↔ ∀ i, i < l.length → i < 4 → l.getD i 0 = magic.getD i 0 := by
  unfold beg
  rw [beq_iff_eq]
  constructor
  · intro h i hi h4
    have := congrArg (fun t => t[i]?) h
    simp only [List.getElem?_take, if_pos h4, if_pos hi] at this
    rw [List.getD_eq_getElem?_getD, List.getD_eq_getElem?_getD, this]
  · intro h
    apply List.ext_getElem?
    intro i
    rw [List.getElem?_take, List.getElem?_take]
    by_cases h4 : i < 4
    · rw [if_pos h4]
      by_cases hi : i < l.length
      · rw [if_pos hi]
        have := h i hi h4
        rw [List.getD_eq_getElem?_getD, List.getD_eq_getElem?_getD, List.getElem?_eq_getElem hi, List.getElem?_eq_getElem (l := magic) (i := i) (by show i < 4; exact h4)] at this
        rw [List.getElem?_eq_getElem hi, List.getElem?_eq_getElem (l := magic) (i := i) (by show i < 4; exact h4)]
        simpa using this
      · rw [if_neg hi, List.getElem?_eq_none (by omega)]
    · rw [if_neg h4]
      by_cases hi : i < l.length
      · rw [if_pos hi, List.getElem?_eq_none (l := magic) (by show 4 ≤ i; omega)]
      · rw [if_neg hi]

set_option maxHeartbeats 1000000 in
theorem begins_any (a : Option Addr) (len cap : Nat) (l : List UInt8) (w : World) (hl : Bys w a len l) (hm : len ≤ maxLen) :
    Calls Try.prog 28 #[.slice a len cap] w fun e w' => e = .returned (.bool (beg l)) ∧ Below w.heap.size w w' := by
  have HZ : Hid (Bys w a len l) := hl
  have HL : Hid (len = l.length) := hl.1
  unfold maxLen at hm
  clear hl
  go_enter Try.func28, Try.ntmps28
  go_wp2
  go_loopw [4] (fun i wr => ∃ k : Nat, k ≤ len ∧ k ≤ 4 ∧ i = .int .i64 k ∧ (∀ j, j < k → l.getD j 0 = magic.getD j 0) ∧ Below w.heap.size w wr) (fun i _ => len - (intOf i).toNat)
  case atStart => exact ⟨0, Nat.zero_le _, Nat.zero_le _, rfl, fun j hj => by omega, Below.refl _ _⟩
  case round =>
    obtain ⟨k, hk, hk4, rfl, hp, hbr⟩ := hrel
    have HPr : Hid (∀ j, j < k → l.getD j 0 = magic.getD j 0) := hp
    have HBr : Hid (Below w.heap.size w wr) := hbr
    clear hp hbr
    by_cases hlt : k < len
    · by_cases h4 : k < 4
      · have hd1 : decide ((k : Int) < (len : Int)) = true := decide_eq_true (by omega)
        have hd2 : decide ((k : Int) < 4) = true := decide_eq_true (by omega)
        obtain ⟨b, off, rfl, hb, hc⟩ := HZ.out.2 (by omega)
        have hck := (HBr.out.cell (p := ⟨b, off + k, none⟩) hb).trans (hc k hlt)
        clear hc
        rcases (show k = 0 ∨ k = 1 ∨ k = 2 ∨ k = 3 by omega) with rfl | rfl | rfl | rfl
        · simp only [Nat.add_zero] at hck
          by_cases hx : l.getD 0 0 = 89
          · have hne : (nm (wd (l.getD 0 0)) != (((⟨#[89, 82, 69, 67]⟩ : ByteArray)[0]'(by decide)).toNat : Int)) = false := by rw [hx, nm_wd]; rfl
            have HN : Hid (∀ j, j < 0 + 1 → l.getD j 0 = magic.getD j 0) := by
              intro j hj
              by_cases e : j = 0
              · subst e; rw [hx]; rfl
              · exact HPr.out j (by omega)
            clear hx
            generalize l.getD 0 0 = x at *
            have hy0 := nm_lo (wd x)
            have hy1 := nm_wd_hi x
            go_wp2_with fail
            go_quiet (fail)
            go_wp2
            exact ⟨⟨0 + 1, by omega, by omega, rfl, HN.out, below_drewN' HBr.out _⟩, by simp [intOf]; omega⟩
          · have hne : (nm (wd (l.getD 0 0)) != (((⟨#[89, 82, 69, 67]⟩ : ByteArray)[0]'(by decide)).toNat : Int)) = true := by
              rw [bne_iff_ne, nm_wd]
              intro e
              have e2 : (((l.getD 0 0).toNat : Nat) : Int) = 89 := e
              exact hx (UInt8.toNat_inj.1 (by show (l.getD 0 0).toNat = 89; omega))
            have HF : Hid (beg l = false) := by
              show _ = _
              rw [← Bool.not_eq_true, beg_iff]
              intro h
              exact hx (h 0 (by rw [← HL.out]; omega) (by decide))
            clear hx
            generalize l.getD 0 0 = x at *
            have hy0 := nm_lo (wd x)
            have hy1 := nm_wd_hi x
            go_wp2_with fail
            go_quiet (fail)
            go_wp2
            go_ret
            exact ⟨by rw [HF.out]; rfl, below_drewN' HBr.out _⟩
        · skip
          by_cases hx : l.getD 1 0 = 82
          · have hne : (nm (wd (l.getD 1 0)) != (((⟨#[89, 82, 69, 67]⟩ : ByteArray)[1]'(by decide)).toNat : Int)) = false := by rw [hx, nm_wd]; rfl
            have HN : Hid (∀ j, j < 1 + 1 → l.getD j 0 = magic.getD j 0) := by
              intro j hj
              by_cases e : j = 1
              · subst e; rw [hx]; rfl
              · exact HPr.out j (by omega)
            clear hx
            generalize l.getD 1 0 = x at *
            have hy0 := nm_lo (wd x)
            have hy1 := nm_wd_hi x
            go_wp2_with fail
            go_quiet (fail)
            go_wp2
            exact ⟨⟨1 + 1, by omega, by omega, rfl, HN.out, below_drewN' HBr.out _⟩, by simp [intOf]; omega⟩
          · have hne : (nm (wd (l.getD 1 0)) != (((⟨#[89, 82, 69, 67]⟩ : ByteArray)[1]'(by decide)).toNat : Int)) = true := by
              rw [bne_iff_ne, nm_wd]
              intro e
              have e2 : (((l.getD 1 0).toNat : Nat) : Int) = 82 := e
              exact hx (UInt8.toNat_inj.1 (by show (l.getD 1 0).toNat = 82; omega))
            have HF : Hid (beg l = false) := by
              show _ = _
              rw [← Bool.not_eq_true, beg_iff]
              intro h
              exact hx (h 1 (by rw [← HL.out]; omega) (by decide))
            clear hx
            generalize l.getD 1 0 = x at *
            have hy0 := nm_lo (wd x)
            have hy1 := nm_wd_hi x
            go_wp2_with fail
            go_quiet (fail)
            go_wp2
            go_ret
            exact ⟨by rw [HF.out]; rfl, below_drewN' HBr.out _⟩
        · skip
          by_cases hx : l.getD 2 0 = 69
          · have hne : (nm (wd (l.getD 2 0)) != (((⟨#[89, 82, 69, 67]⟩ : ByteArray)[2]'(by decide)).toNat : Int)) = false := by rw [hx, nm_wd]; rfl
            have HN : Hid (∀ j, j < 2 + 1 → l.getD j 0 = magic.getD j 0) := by
              intro j hj
              by_cases e : j = 2
              · subst e; rw [hx]; rfl
              · exact HPr.out j (by omega)
            clear hx
            generalize l.getD 2 0 = x at *
            have hy0 := nm_lo (wd x)
            have hy1 := nm_wd_hi x
            go_wp2_with fail
            go_quiet (fail)
            go_wp2
            exact ⟨⟨2 + 1, by omega, by omega, rfl, HN.out, below_drewN' HBr.out _⟩, by simp [intOf]; omega⟩
          · have hne : (nm (wd (l.getD 2 0)) != (((⟨#[89, 82, 69, 67]⟩ : ByteArray)[2]'(by decide)).toNat : Int)) = true := by
              rw [bne_iff_ne, nm_wd]
              intro e
              have e2 : (((l.getD 2 0).toNat : Nat) : Int) = 69 := e
              exact hx (UInt8.toNat_inj.1 (by show (l.getD 2 0).toNat = 69; omega))
            have HF : Hid (beg l = false) := by
              show _ = _
              rw [← Bool.not_eq_true, beg_iff]
              intro h
              exact hx (h 2 (by rw [← HL.out]; omega) (by decide))
            clear hx
            generalize l.getD 2 0 = x at *
            have hy0 := nm_lo (wd x)
            have hy1 := nm_wd_hi x
            go_wp2_with fail
            go_quiet (fail)
            go_wp2
            go_ret
            exact ⟨by rw [HF.out]; rfl, below_drewN' HBr.out _⟩
        · skip
          by_cases hx : l.getD 3 0 = 67
          · have hne : (nm (wd (l.getD 3 0)) != (((⟨#[89, 82, 69, 67]⟩ : ByteArray)[3]'(by decide)).toNat : Int)) = false := by rw [hx, nm_wd]; rfl
            have HN : Hid (∀ j, j < 3 + 1 → l.getD j 0 = magic.getD j 0) := by
              intro j hj
              by_cases e : j = 3
              · subst e; rw [hx]; rfl
              · exact HPr.out j (by omega)
            clear hx
            generalize l.getD 3 0 = x at *
            have hy0 := nm_lo (wd x)
            have hy1 := nm_wd_hi x
            go_wp2_with fail
            go_quiet (fail)
            go_wp2
            exact ⟨⟨3 + 1, by omega, by omega, rfl, HN.out, below_drewN' HBr.out _⟩, by simp [intOf]; omega⟩
          · have hne : (nm (wd (l.getD 3 0)) != (((⟨#[89, 82, 69, 67]⟩ : ByteArray)[3]'(by decide)).toNat : Int)) = true := by
              rw [bne_iff_ne, nm_wd]
              intro e
              have e2 : (((l.getD 3 0).toNat : Nat) : Int) = 67 := e
              exact hx (UInt8.toNat_inj.1 (by show (l.getD 3 0).toNat = 67; omega))
            have HF : Hid (beg l = false) := by
              show _ = _
              rw [← Bool.not_eq_true, beg_iff]
              intro h
              exact hx (h 3 (by rw [← HL.out]; omega) (by decide))
            clear hx
            generalize l.getD 3 0 = x at *
            have hy0 := nm_lo (wd x)
            have hy1 := nm_wd_hi x
            go_wp2_with fail
            go_quiet (fail)
            go_wp2
            go_ret
            exact ⟨by rw [HF.out]; rfl, below_drewN' HBr.out _⟩
      · have hk' : (k : Int) = 4 := by omega
        have HF : Hid (beg l = true) := by
          show _ = _
          rw [beg_iff]
          exact fun i _ h => HPr.out i (by omega)
        have hd1 : decide ((k : Int) < (len : Int)) = true := decide_eq_true (by omega)
        have hd2 : decide ((k : Int) < 4) = false := decide_eq_false (by omega)
        go_wp2
        go_ret
        exact ⟨by rw [HF.out]; rfl, HBr.out⟩
    · have HF : Hid (beg l = true) := by
        show _ = _
        rw [beg_iff]
        exact fun i h _ => HPr.out i (by have := HL.out; omega)
      have hd1 : decide ((k : Int) < (len : Int)) = false := decide_eq_false (by omega)
      go_wp2
      go_ret
      exact ⟨by rw [HF.out]; rfl, HBr.out⟩

end Go.Proofs.Ythmoapigjafijaa.Frm
