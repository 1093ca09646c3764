/- What is encoded is decoded, and turned round; two texts, one behind the other: plain facts. -/
import Derived.Test.YtkggdjghjdakoaaGreatDoorUtfPlain2
namespace Go.Proofs.YtkggdjghjdakoaaGreatDoor.Utf
set_option linter.unusedSimpArgs false
set_option linter.unusedVariables false

def u8s (l : List Int) : List UInt8 := l.map fun n => UInt8.ofNat n.toNat

theorem hd_one {b : UInt8} (h : b.toNat < 128) : hdL b = 1 ∧ hdV b = b.toNat := by
  unfold hdL hdV; rw [if_pos h, if_pos h]; exact ⟨rfl, rfl⟩
theorem hd_two {b : UInt8} (h : 192 ≤ b.toNat) (h' : b.toNat < 224) : hdL b = 2 ∧ hdV b = b.toNat - 192 := by
  unfold hdL hdV; rw [if_neg (by omega), if_neg (by omega), if_pos h', if_neg (by omega), if_neg (by omega), if_pos h']; exact ⟨rfl, rfl⟩
theorem hd_three {b : UInt8} (h : 224 ≤ b.toNat) (h' : b.toNat < 240) : hdL b = 3 ∧ hdV b = b.toNat - 224 := by
  unfold hdL hdV; rw [if_neg (by omega), if_neg (by omega), if_neg (by omega), if_pos h', if_neg (by omega), if_neg (by omega), if_neg (by omega), if_pos h']; exact ⟨rfl, rfl⟩
theorem hd_four {b : UInt8} (h : 240 ≤ b.toNat) (h' : b.toNat < 248) : hdL b = 4 ∧ hdV b = b.toNat - 240 := by
  unfold hdL hdV; rw [if_neg (by omega), if_neg (by omega), if_neg (by omega), if_neg (by omega), if_pos h', if_neg (by omega), if_neg (by omega), if_neg (by omega), if_neg (by omega), if_pos h']; exact ⟨rfl, rfl⟩
theorem hd_inv (b : UInt8) : (hdL b = 0) ∨ (hdL b = 1 ∧ b.toNat < 128 ∧ hdV b = b.toNat) ∨ (hdL b = 2 ∧ 192 ≤ b.toNat ∧ b.toNat < 224 ∧ hdV b = b.toNat - 192) ∨
    (hdL b = 3 ∧ 224 ≤ b.toNat ∧ b.toNat < 240 ∧ hdV b = b.toNat - 224) ∨ (hdL b = 4 ∧ 240 ≤ b.toNat ∧ b.toNat < 248 ∧ hdV b = b.toNat - 240) := by
  by_cases h1 : b.toNat < 128
  · obtain ⟨a, c⟩ := hd_one h1; exact .inr (.inl ⟨a, h1, c⟩)
  by_cases h2 : b.toNat < 192
  · left; unfold hdL; rw [if_neg h1, if_pos h2]
  by_cases h3 : b.toNat < 224
  · obtain ⟨a, c⟩ := hd_two (b := b) (by omega) h3; exact .inr (.inr (.inl ⟨a, by omega, h3, c⟩))
  by_cases h4 : b.toNat < 240
  · obtain ⟨a, c⟩ := hd_three (b := b) (by omega) h4; exact .inr (.inr (.inr (.inl ⟨a, by omega, h4, c⟩)))
  by_cases h5 : b.toNat < 248
  · obtain ⟨a, c⟩ := hd_four (b := b) (by omega) h5; exact .inr (.inr (.inr (.inr ⟨a, by omega, h5, c⟩)))
  · left; unfold hdL; rw [if_neg h1, if_neg h2, if_neg h3, if_neg h4, if_neg h5]

theorem toNat_u8 {x : Int} (h0 : 0 ≤ x) (h1 : x < 256) : (UInt8.ofNat x.toNat).toNat = x.toNat := by
  rw [UInt8.toNat_ofNat']; omega
theorem u8_of {b : UInt8} {x : Int} (h : x = b.toNat) : UInt8.ofNat x.toNat = b := by
  subst h; simp
theorem rest_u8 {x : Int} (h0 : 128 ≤ x) (h1 : x < 192) : isRestB (UInt8.ofNat x.toNat) = true := by
  unfold isRestB; rw [toNat_u8 (by omega) (by omega)]; simp; omega
theorem wid1 {n : Int} (h : n < 128) : wid n = 1 := by unfold wid; rw [if_pos h]
theorem wid2 {n : Int} (h : 128 ≤ n) (h' : n < 2048) : wid n = 2 := by unfold wid; rw [if_neg (by omega), if_pos h']
theorem wid3 {n : Int} (h : 2048 ≤ n) (h' : n < 65536) : wid n = 3 := by unfold wid; rw [if_neg (by omega), if_neg (by omega), if_pos h']
theorem wid4 {n : Int} (h : 65536 ≤ n) : wid n = 4 := by unfold wid; rw [if_neg (by omega), if_neg (by omega), if_neg (by omega)]

/-- a sign's bytes, whatever stands behind: that sign -/
theorem fst_enc {n : Int} (h : sgn n = true) (r : List UInt8) : fst (u8s (byt n) ++ r) = (n, ((byt n).length : Int)) := by
  obtain ⟨h0, h1, _⟩ := sgn_bd h
  rcases byt_parts h0 h1 with ⟨e, c⟩ | ⟨e, c, c'⟩ | ⟨e, c, c'⟩ | ⟨e, c⟩ <;> rw [e]
  · have hb : (UInt8.ofNat n.toNat).toNat = n.toNat := toNat_u8 h0 (by omega)
    obtain ⟨hl, hv⟩ := hd_one (b := UInt8.ofNat n.toNat) (by omega)
    have ea : accL (u8s [n] ++ r) 0 = n := by simp only [accL, u8s, List.map_cons, List.map_nil, List.cons_append, List.getD_cons_zero]; rw [hv, hb]; omega
    have e0 : (u8s [n] ++ r).getD 0 0 = UInt8.ofNat n.toNat := rfl
    have := fst_yes (u8s [n] ++ r) (by rw [e0, hl]; decide) (by rw [e0, hl]; simp [u8s]; omega) (by
      rw [e0, hl]
      refine ⟨rfl, ?_, ?_⟩
      · show sgn (accL (u8s [n] ++ r) 0) = true; rw [ea]; exact h
      · show wid (accL (u8s [n] ++ r) 0) = 1; rw [ea]; exact wid1 c)
    rw [this, e0, hl]
    show (accL (u8s [n] ++ r) 0, (1 : Int)) = _
    rw [ea]; rfl
  · have hb : (UInt8.ofNat (192 + n / 64).toNat).toNat = (192 + n / 64).toNat := toNat_u8 (by omega) (by omega)
    have hb1 : (UInt8.ofNat (128 + n % 64).toNat).toNat = (128 + n % 64).toNat := toNat_u8 (by omega) (by omega)
    obtain ⟨hl, hv⟩ := hd_two (b := UInt8.ofNat (192 + n / 64).toNat) (by omega) (by omega)
    have ea : accL (u8s [192 + n / 64, 128 + n % 64] ++ r) 1 = n := by
      simp only [accL, u8s, List.map_cons, List.map_nil, List.cons_append, List.getD_cons_zero, List.getD_cons_succ]; rw [hv, hb, hb1]; omega
    have e0 : (u8s [192 + n / 64, 128 + n % 64] ++ r).getD 0 0 = UInt8.ofNat (192 + n / 64).toNat := rfl
    have e1 : (u8s [192 + n / 64, 128 + n % 64] ++ r).getD 1 0 = UInt8.ofNat (128 + n % 64).toNat := rfl
    have r1 := rest_u8 (x := 128 + n % 64) (by omega) (by omega)
    have := fst_yes (u8s [192 + n / 64, 128 + n % 64] ++ r) (by rw [e0, hl]; decide) (by rw [e0, hl]; simp [u8s]; omega) (by
      rw [e0, hl]
      refine ⟨?_, ?_, ?_⟩
      · show okL (u8s [192 + n / 64, 128 + n % 64] ++ r) 2 = true
        simp only [okL, e1, r1]; rfl
      · show sgn (accL (u8s [192 + n / 64, 128 + n % 64] ++ r) 1) = true; rw [ea]; exact h
      · show wid (accL (u8s [192 + n / 64, 128 + n % 64] ++ r) 1) = 2; rw [ea]; exact wid2 c c')
    rw [this, e0, hl]
    show (accL (u8s [192 + n / 64, 128 + n % 64] ++ r) 1, (2 : Int)) = _
    rw [ea]; rfl
  · have hb : (UInt8.ofNat (224 + n / 4096).toNat).toNat = (224 + n / 4096).toNat := toNat_u8 (by omega) (by omega)
    have hb1 : (UInt8.ofNat (128 + n / 64 % 64).toNat).toNat = (128 + n / 64 % 64).toNat := toNat_u8 (by omega) (by omega)
    have hb2 : (UInt8.ofNat (128 + n % 64).toNat).toNat = (128 + n % 64).toNat := toNat_u8 (by omega) (by omega)
    obtain ⟨hl, hv⟩ := hd_three (b := UInt8.ofNat (224 + n / 4096).toNat) (by omega) (by omega)
    have ea : accL (u8s [224 + n / 4096, 128 + n / 64 % 64, 128 + n % 64] ++ r) 2 = n := by
      simp only [accL, u8s, List.map_cons, List.map_nil, List.cons_append, List.getD_cons_zero, List.getD_cons_succ]; rw [hv, hb, hb1, hb2]; omega
    have e0 : (u8s [224 + n / 4096, 128 + n / 64 % 64, 128 + n % 64] ++ r).getD 0 0 = UInt8.ofNat (224 + n / 4096).toNat := rfl
    have e1 : (u8s [224 + n / 4096, 128 + n / 64 % 64, 128 + n % 64] ++ r).getD 1 0 = UInt8.ofNat (128 + n / 64 % 64).toNat := rfl
    have e2 : (u8s [224 + n / 4096, 128 + n / 64 % 64, 128 + n % 64] ++ r).getD 2 0 = UInt8.ofNat (128 + n % 64).toNat := rfl
    have r1 := rest_u8 (x := 128 + n / 64 % 64) (by omega) (by omega)
    have r2 := rest_u8 (x := 128 + n % 64) (by omega) (by omega)
    have := fst_yes (u8s [224 + n / 4096, 128 + n / 64 % 64, 128 + n % 64] ++ r) (by rw [e0, hl]; decide) (by rw [e0, hl]; simp [u8s]; omega) (by
      rw [e0, hl]
      refine ⟨?_, ?_, ?_⟩
      · show okL (u8s [224 + n / 4096, 128 + n / 64 % 64, 128 + n % 64] ++ r) 3 = true
        simp only [okL, e1, e2, r1, r2]; rfl
      · show sgn (accL (u8s [224 + n / 4096, 128 + n / 64 % 64, 128 + n % 64] ++ r) 2) = true; rw [ea]; exact h
      · show wid (accL (u8s [224 + n / 4096, 128 + n / 64 % 64, 128 + n % 64] ++ r) 2) = 3; rw [ea]; exact wid3 c c')
    rw [this, e0, hl]
    show (accL (u8s [224 + n / 4096, 128 + n / 64 % 64, 128 + n % 64] ++ r) 2, (3 : Int)) = _
    rw [ea]; rfl
  · have hb : (UInt8.ofNat (240 + n / 262144).toNat).toNat = (240 + n / 262144).toNat := toNat_u8 (by omega) (by omega)
    have hb1 : (UInt8.ofNat (128 + n / 4096 % 64).toNat).toNat = (128 + n / 4096 % 64).toNat := toNat_u8 (by omega) (by omega)
    have hb2 : (UInt8.ofNat (128 + n / 64 % 64).toNat).toNat = (128 + n / 64 % 64).toNat := toNat_u8 (by omega) (by omega)
    have hb3 : (UInt8.ofNat (128 + n % 64).toNat).toNat = (128 + n % 64).toNat := toNat_u8 (by omega) (by omega)
    obtain ⟨hl, hv⟩ := hd_four (b := UInt8.ofNat (240 + n / 262144).toNat) (by omega) (by omega)
    have ea : accL (u8s [240 + n / 262144, 128 + n / 4096 % 64, 128 + n / 64 % 64, 128 + n % 64] ++ r) 3 = n := by
      simp only [accL, u8s, List.map_cons, List.map_nil, List.cons_append, List.getD_cons_zero, List.getD_cons_succ]; rw [hv, hb, hb1, hb2, hb3]; omega
    have e0 : (u8s [240 + n / 262144, 128 + n / 4096 % 64, 128 + n / 64 % 64, 128 + n % 64] ++ r).getD 0 0 = UInt8.ofNat (240 + n / 262144).toNat := rfl
    have e1 : (u8s [240 + n / 262144, 128 + n / 4096 % 64, 128 + n / 64 % 64, 128 + n % 64] ++ r).getD 1 0 = UInt8.ofNat (128 + n / 4096 % 64).toNat := rfl
    have e2 : (u8s [240 + n / 262144, 128 + n / 4096 % 64, 128 + n / 64 % 64, 128 + n % 64] ++ r).getD 2 0 = UInt8.ofNat (128 + n / 64 % 64).toNat := rfl
    have e3 : (u8s [240 + n / 262144, 128 + n / 4096 % 64, 128 + n / 64 % 64, 128 + n % 64] ++ r).getD 3 0 = UInt8.ofNat (128 + n % 64).toNat := rfl
    have r1 := rest_u8 (x := 128 + n / 4096 % 64) (by omega) (by omega)
    have r2 := rest_u8 (x := 128 + n / 64 % 64) (by omega) (by omega)
    have r3 := rest_u8 (x := 128 + n % 64) (by omega) (by omega)
    have := fst_yes (u8s [240 + n / 262144, 128 + n / 4096 % 64, 128 + n / 64 % 64, 128 + n % 64] ++ r) (by rw [e0, hl]; decide) (by rw [e0, hl]; simp [u8s]; omega) (by
      rw [e0, hl]
      refine ⟨?_, ?_, ?_⟩
      · show okL (u8s [240 + n / 262144, 128 + n / 4096 % 64, 128 + n / 64 % 64, 128 + n % 64] ++ r) 4 = true
        simp only [okL, e1, e2, e3, r1, r2, r3]; rfl
      · show sgn (accL (u8s [240 + n / 262144, 128 + n / 4096 % 64, 128 + n / 64 % 64, 128 + n % 64] ++ r) 3) = true; rw [ea]; exact h
      · show wid (accL (u8s [240 + n / 262144, 128 + n / 4096 % 64, 128 + n / 64 % 64, 128 + n % 64] ++ r) 3) = 4; rw [ea]; exact wid4 c)
    rw [this, e0, hl]
    show (accL (u8s [240 + n / 262144, 128 + n / 4096 % 64, 128 + n / 64 % 64, 128 + n % 64] ++ r) 3, (4 : Int)) = _
    rw [ea]; rfl

theorem isRest_bd {b : UInt8} (h : isRestB b = true) : 128 ≤ b.toNat ∧ b.toNat < 192 := by
  unfold isRestB at h; simpa using h
theorem wid_inv {n : Int} : (wid n = 1 → n < 128) ∧ (wid n = 2 → 128 ≤ n ∧ n < 2048) ∧ (wid n = 3 → 2048 ≤ n ∧ n < 65536) ∧ (wid n = 4 → 65536 ≤ n) := by
  unfold wid
  by_cases c1 : n < 128
  · rw [if_pos c1]; exact ⟨fun _ => c1, fun h => absurd h (by decide), fun h => absurd h (by decide), fun h => absurd h (by decide)⟩
  by_cases c2 : n < 2048
  · rw [if_neg c1, if_pos c2]; exact ⟨fun h => absurd h (by decide), fun _ => by omega, fun h => absurd h (by decide), fun h => absurd h (by decide)⟩
  by_cases c3 : n < 65536
  · rw [if_neg c1, if_neg c2, if_pos c3]; exact ⟨fun h => absurd h (by decide), fun h => absurd h (by decide), fun _ => by omega, fun h => absurd h (by decide)⟩
  · rw [if_neg c1, if_neg c2, if_neg c3]; exact ⟨fun h => absurd h (by decide), fun h => absurd h (by decide), fun h => absurd h (by decide), fun _ => by omega⟩

/-- where there is a sign, its bytes stand there -/
theorem fst_sound (l : List UInt8) (hn : 0 ≤ (fst l).1) : sgn (fst l).1 = true ∧ (fst l).2 = ((byt (fst l).1).length : Int) ∧ l = u8s (byt (fst l).1) ++ l.drop (byt (fst l).1).length := by
  by_cases h0 : l.length = 0
  · rw [fst_nil l h0] at hn; exact absurd hn (by decide)
  by_cases h1 : hdL (l.getD 0 0) = 0 ∨ (l.length : Int) < hdL (l.getD 0 0)
  · rw [fst_no l h0 h1] at hn; exact absurd hn (by decide)
  by_cases h3 : okL l (hdL (l.getD 0 0)).toNat = true ∧ sgn (accL l ((hdL (l.getD 0 0)).toNat - 1)) = true ∧ wid (accL l ((hdL (l.getD 0 0)).toNat - 1)) = hdL (l.getD 0 0)
  case neg =>
    have e : fst l = (-1, 1) := by unfold fst; rw [if_neg h0, if_neg h1, if_neg h3]
    rw [e] at hn; exact absurd hn (by decide)
  have hc := hdL_cases (l.getD 0 0)
  have hf := fst_yes l (by omega) (by omega) h3
  obtain ⟨h3a, h3b, h3c⟩ := h3
  rw [hf]
  simp only
  clear hf hn
  have hi := hd_inv (l.getD 0 0)
  match l, h0 with
  | b0 :: l1, _ =>
    simp only [List.getD_cons_zero] at *
    rcases hi with hi | ⟨hL, i1, iv⟩ | ⟨hL, i1, i2, iv⟩ | ⟨hL, i1, i2, iv⟩ | ⟨hL, i1, i2, iv⟩
    · exact absurd (Or.inl hi) h1
    · rw [hL] at h3a h3b h3c h1 ⊢
      have ea : accL (b0 :: l1) ((1 : Int).toNat - 1) = b0.toNat := by show accL (b0 :: l1) 0 = _; simp only [accL, List.getD_cons_zero]; exact iv
      rw [ea] at h3b h3c ⊢
      have hw := wid_inv (n := (b0.toNat : Int)).1 h3c
      have e : byt (b0.toNat : Int) = [(b0.toNat : Int)] := by unfold byt; rw [if_pos hw]
      rw [e]
      refine ⟨h3b, rfl, ?_⟩
      simp [u8s]
    · rw [hL] at h3a h3b h3c h1 ⊢
      match l1, h1 with
      | [], h1 => simp at h1
      | b1 :: l2, _ =>
        have hr1 : isRestB b1 = true := by
          have : okL (b0 :: b1 :: l2) 2 = true := h3a
          simp [okL] at this; exact this
        have := isRest_bd hr1
        have ea : accL (b0 :: b1 :: l2) ((2 : Int).toNat - 1) = ((b0.toNat : Int) - 192) * 64 + (b1.toNat : Int) % 64 := by
          show accL (b0 :: b1 :: l2) 1 = _; simp only [accL, List.getD_cons_zero, List.getD_cons_succ]; rw [iv]
        generalize hn : accL (b0 :: b1 :: l2) ((2 : Int).toNat - 1) = n at *
        have hw := wid_inv (n := n).2.1 h3c
        have e : byt n = [192 + n / 64, 128 + n % 64] := by unfold byt; rw [if_neg (by omega), if_pos (by omega)]
        rw [e]
        refine ⟨h3b, rfl, ?_⟩
        simp only [u8s, List.map_cons, List.map_nil, List.length_cons, List.length_nil, List.cons_append, List.nil_append, List.drop_succ_cons, List.drop_zero]
        rw [u8_of (b := b0) (by omega), u8_of (b := b1) (by omega)]
    · rw [hL] at h3a h3b h3c h1 ⊢
      match l1, h1 with
      | [], h1 => simp at h1
      | [b1], h1 => simp at h1
      | b1 :: b2 :: l3, _ =>
        have hr : isRestB b1 = true ∧ isRestB b2 = true := by
          have : okL (b0 :: b1 :: b2 :: l3) 3 = true := h3a
          simp [okL] at this; exact this
        have := isRest_bd hr.1
        have := isRest_bd hr.2
        have ea : accL (b0 :: b1 :: b2 :: l3) ((3 : Int).toNat - 1) = (((b0.toNat : Int) - 224) * 64 + (b1.toNat : Int) % 64) * 64 + (b2.toNat : Int) % 64 := by
          show accL (b0 :: b1 :: b2 :: l3) 2 = _; simp only [accL, List.getD_cons_zero, List.getD_cons_succ]; rw [iv]
        generalize hn : accL (b0 :: b1 :: b2 :: l3) ((3 : Int).toNat - 1) = n at *
        have hw := wid_inv (n := n).2.2.1 h3c
        have e : byt n = [224 + n / 4096, 128 + n / 64 % 64, 128 + n % 64] := by unfold byt; rw [if_neg (by omega), if_neg (by omega), if_pos (by omega)]
        rw [e]
        refine ⟨h3b, rfl, ?_⟩
        simp only [u8s, List.map_cons, List.map_nil, List.length_cons, List.length_nil, List.cons_append, List.nil_append, List.drop_succ_cons, List.drop_zero]
        rw [u8_of (b := b0) (by omega), u8_of (b := b1) (by omega), u8_of (b := b2) (by omega)]
    · rw [hL] at h3a h3b h3c h1 ⊢
      match l1, h1 with
      | [], h1 => simp at h1
      | [b1], h1 => simp at h1
      | [b1, b2], h1 => simp at h1
      | b1 :: b2 :: b3 :: l4, _ =>
        have hr : (isRestB b1 = true ∧ isRestB b2 = true) ∧ isRestB b3 = true := by
          have : okL (b0 :: b1 :: b2 :: b3 :: l4) 4 = true := h3a
          simp [okL] at this; exact this
        have := isRest_bd hr.1.1
        have := isRest_bd hr.1.2
        have := isRest_bd hr.2
        have ea : accL (b0 :: b1 :: b2 :: b3 :: l4) ((4 : Int).toNat - 1) = ((((b0.toNat : Int) - 240) * 64 + (b1.toNat : Int) % 64) * 64 + (b2.toNat : Int) % 64) * 64 + (b3.toNat : Int) % 64 := by
          show accL (b0 :: b1 :: b2 :: b3 :: l4) 3 = _; simp only [accL, List.getD_cons_zero, List.getD_cons_succ]; rw [iv]
        have hsg := sgn_bd h3b
        generalize hn : accL (b0 :: b1 :: b2 :: b3 :: l4) ((4 : Int).toNat - 1) = n at *
        have hw := wid_inv (n := n).2.2.2 h3c
        have e : byt n = [240 + n / 262144, 128 + n / 4096 % 64, 128 + n / 64 % 64, 128 + n % 64] := by unfold byt; rw [if_neg (by omega), if_neg (by omega), if_neg (by omega)]
        rw [e]
        refine ⟨h3b, rfl, ?_⟩
        simp only [u8s, List.map_cons, List.map_nil, List.length_cons, List.length_nil, List.cons_append, List.nil_append, List.drop_succ_cons, List.drop_zero]
        rw [u8_of (b := b0) (by omega), u8_of (b := b1) (by omega), u8_of (b := b2) (by omega), u8_of (b := b3) (by omega)]

theorem drop_enc {n : Int} (r : List UInt8) : (u8s (byt n) ++ r).drop (byt n).length = r := by
  have e : (u8s (byt n)).length = (byt n).length := by simp [u8s]
  rw [← e]; exact List.drop_left
theorem fk_enc {n : Int} (h : sgn n = true) (r : List UInt8) : fk (u8s (byt n) ++ r) = (byt n).length := by
  unfold fk; rw [fst_enc h r]; simp
theorem enc_ne {n : Int} (r : List UInt8) : u8s (byt n) ++ r ≠ [] := by
  intro e
  have h1 := congrArg List.length e
  have := byt_len n
  simp [u8s] at h1
  have h2 : byt n = [] := h1.1
  rw [h2] at this; simp at this

/-- P1.3: what is encoded is decoded -/
theorem dec_bytes (zs : List Int) (h : allS zs = true) (r : List UInt8) :
    dec (u8s (bytes zs) ++ r) = (zs ++ (dec r).1, (dec r).2.map (· + (bytes zs).length)) ∧ cnt (u8s (bytes zs) ++ r) = zs.length + cnt r := by
  induction zs with
  | nil => exact ⟨by simp [bytes, u8s], by simp [bytes, u8s]⟩
  | cons n zs ih =>
    have hs : sgn n = true ∧ allS zs = true := by unfold allS at h ⊢; simpa using h
    obtain ⟨ih1, ih2⟩ := ih hs.2
    have e : u8s (bytes (n :: zs)) ++ r = u8s (byt n) ++ (u8s (bytes zs) ++ r) := by simp [bytes, u8s]
    have hb := sgn_bd hs.1
    have hne := enc_ne (n := n) (u8s (bytes zs) ++ r)
    rw [e]
    refine ⟨?_, ?_⟩
    · rw [dec_next _ hne (by rw [fst_enc hs.1]; simp only; omega), fk_enc hs.1, drop_enc, ih1, fst_enc hs.1]
      simp only [List.cons_append, Option.map_map]
      congr 2
      funext x
      simp [bytes]
      omega
    · rw [cnt_next _ hne, fk_enc hs.1, drop_enc, ih2]
      simp; omega
theorem dec_enc (zs : List Int) (h : allS zs = true) : dec (u8s (bytes zs)) = (zs, none) ∧ cnt (u8s (bytes zs)) = zs.length := by
  have := dec_bytes zs h []
  rw [List.append_nil, dec_nil, cnt_nil] at this
  simpa using this

/-- P1.3, turned round: what is decoded is encoded; a fault lies within -/
theorem dec_sound (m : Nat) : ∀ l : List UInt8, l.length ≤ m → ((dec l).2 = none → allS (dec l).1 = true ∧ u8s (bytes (dec l).1) = l) ∧ (∀ p, (dec l).2 = some p → p < l.length) := by
  induction m with
  | zero =>
    intro l hl
    have e : l = [] := List.eq_nil_iff_length_eq_zero.2 (by omega)
    subst e
    exact ⟨fun _ => ⟨rfl, rfl⟩, fun p hp => by simp [dec_nil] at hp⟩
  | succ m ih =>
    intro l hl
    by_cases e : l = []
    · subst e; exact ⟨fun _ => ⟨rfl, rfl⟩, fun p hp => by simp [dec_nil] at hp⟩
    have hp := fk_pos l e
    have hd : (l.drop (fk l)).length = l.length - fk l := List.length_drop ..
    obtain ⟨i1, i2⟩ := ih (l.drop (fk l)) (by omega)
    by_cases hn : (fst l).1 < 0
    · rw [dec_bad l e hn]
      exact ⟨fun h => by simp at h, fun p h => by simp at h; omega⟩
    · obtain ⟨s1, s2, s3⟩ := fst_sound l (by omega)
      rw [dec_next l e hn]
      have hk : fk l = (byt (fst l).1).length := by unfold fk; rw [s2]; simp
      refine ⟨fun h => ?_, fun p h => ?_⟩
      · simp only [Option.map_eq_none_iff] at h
        obtain ⟨j1, j2⟩ := i1 h
        refine ⟨by unfold allS at j1 ⊢; simp [s1, j1], ?_⟩
        have e2 : u8s (bytes ((fst l).1 :: (dec (l.drop (fk l))).1)) = u8s (byt (fst l).1) ++ u8s (bytes (dec (l.drop (fk l))).1) := by simp [bytes, u8s]
        simp only
        rw [e2, j2, hk]
        exact s3.symm
      · simp only [Option.map_eq_some_iff] at h
        obtain ⟨q, h1, h2⟩ := h
        have := i2 q h1
        omega

/-- P1.2: two texts, one behind the other -/
theorem dec_both (s t : List UInt8) (h : (dec s).2 = none) :
    dec (s ++ t) = ((dec s).1 ++ (dec t).1, (dec t).2.map (· + s.length)) ∧ cnt (s ++ t) = cnt s + cnt t := by
  obtain ⟨h1, h2⟩ := (dec_sound s.length s (Nat.le_refl _)).1 h
  have h3 := dec_bytes (dec s).1 h1 t
  have h4 := dec_enc (dec s).1 h1
  have hl : (bytes (dec s).1).length = s.length := by have := congrArg List.length h2; simpa [u8s] using this
  rw [h2] at h3 h4
  rw [hl] at h3
  exact ⟨h3.1, by rw [h3.2, h4.2]⟩

end Go.Proofs.YtkggdjghjdakoaaGreatDoor.Utf
