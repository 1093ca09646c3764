/- Signs and their bytes, as plain functions on numbers and lists. -/
namespace Go.Proofs.YtkggdjghjdakoaaGreatDoor.Utf

def inR (n a b : Int) : Bool := decide (a ≤ n) && decide (n ≤ b)
def sgn (n : Int) : Bool := inR n 0 1114111 && !(inR n 55296 57343)
def wid (n : Int) : Int := if n < 128 then 1 else if n < 2048 then 2 else if n < 65536 then 3 else 4
def isRestB (b : UInt8) : Bool := decide (128 ≤ b.toNat) && decide (b.toNat < 192)
def hdL (b : UInt8) : Int := if b.toNat < 128 then 1 else if b.toNat < 192 then 0 else if b.toNat < 224 then 2 else if b.toNat < 240 then 3 else if b.toNat < 248 then 4 else 0
def hdV (b : UInt8) : Int := if b.toNat < 128 then b.toNat else if b.toNat < 192 then 0 else if b.toNat < 224 then b.toNat - 192 else if b.toNat < 240 then b.toNat - 224 else if b.toNat < 248 then b.toNat - 240 else 0
def prn (n : Int) : Bool := n == 9 || n == 10 || n == 13 || n == 133 || (!(n == 65279) && (inR n 32 126 || inR n 160 55295 || inR n 57344 65533 || inR n 65536 1114111))
def byt (n : Int) : List Int :=
  if n < 128 then [n] else if n < 2048 then [192 + n / 64, 128 + n % 64]
  else if n < 65536 then [224 + n / 4096, 128 + n / 64 % 64, 128 + n % 64]
  else [240 + n / 262144, 128 + n / 4096 % 64, 128 + n / 64 % 64, 128 + n % 64]

/-- what the first k + 1 bytes are, read as one sign's -/
def accL (l : List UInt8) : Nat → Int
  | 0 => hdV (l.getD 0 0)
  | k + 1 => accL l k * 64 + ((l.getD (k + 1) 0).toNat : Int) % 64
/-- the bytes from 1 on, below k, are none that begins a sign -/
def okL (l : List UInt8) : Nat → Bool
  | 0 => true
  | k + 1 => okL l k && (k == 0 || isRestB (l.getD k 0))
def fst (l : List UInt8) : Int × Int :=
  if l.length = 0 then (-1, 0)
  else if hdL (l.getD 0 0) = 0 ∨ (l.length : Int) < hdL (l.getD 0 0) then (-1, 1)
  else if okL l (hdL (l.getD 0 0)).toNat = true ∧ sgn (accL l ((hdL (l.getD 0 0)).toNat - 1)) = true ∧ wid (accL l ((hdL (l.getD 0 0)).toNat - 1)) = hdL (l.getD 0 0)
    then (accL l ((hdL (l.getD 0 0)).toNat - 1), hdL (l.getD 0 0)) else (-1, 1)

theorem hdL_cases (b : UInt8) : hdL b = 0 ∨ hdL b = 1 ∨ hdL b = 2 ∨ hdL b = 3 ∨ hdL b = 4 := by
  unfold hdL; split; · simp
  split; · simp
  split; · simp
  split; · simp
  split <;> simp
theorem hdV_bd (b : UInt8) : 0 ≤ hdV b ∧ hdV b ≤ 127 := by
  have := b.toNat_lt
  unfold hdV; split; · omega
  split; · omega
  split; · omega
  split; · omega
  split <;> omega
theorem accL_bd (l : List UInt8) : 0 ≤ accL l 0 ∧ accL l 0 ≤ 127 ∧ 0 ≤ accL l 1 ∧ accL l 1 ≤ 8191 ∧ 0 ≤ accL l 2 ∧ accL l 2 ≤ 524287 ∧ 0 ≤ accL l 3 ∧ accL l 3 ≤ 33554431 := by
  have := hdV_bd (l.getD 0 0)
  simp only [accL]
  omega

theorem okL_mono (l : List UInt8) {k m : Nat} (h : k ≤ m) (hm : okL l m = true) : okL l k = true := by
  induction m with
  | zero =>
    have : k = 0 := by omega
    subst this; exact hm
  | succ m ih =>
    by_cases e : k = m + 1
    · subst e; exact hm
    · simp only [okL, Bool.and_eq_true] at hm
      exact ih (by omega) hm.1
theorem okL_bad (l : List UInt8) {k m : Nat} (h1 : 1 ≤ k) (h : k < m) (hr : isRestB (l.getD k 0) = false) : okL l m = false := by
  rw [Bool.eq_false_iff]
  intro hm
  have h2 := okL_mono l (show k + 1 ≤ m by omega) hm
  have e : (k == 0) = false := by simp; omega
  simp only [okL, e, hr] at h2
  simp at h2
theorem okL_next (l : List UInt8) {k : Nat} (h : okL l k = true) (hr : isRestB (l.getD k 0) = true) : okL l (k + 1) = true := by
  simp only [okL, h, hr]; simp

theorem fst_nil (l : List UInt8) (h : l.length = 0) : fst l = (-1, 0) := by unfold fst; rw [if_pos h]
theorem fst_no (l : List UInt8) (h : l.length ≠ 0) (h' : hdL (l.getD 0 0) = 0 ∨ (l.length : Int) < hdL (l.getD 0 0)) : fst l = (-1, 1) := by unfold fst; rw [if_neg h, if_pos h']
theorem fst_yes (l : List UInt8) (h0 : 1 ≤ hdL (l.getD 0 0)) (h1 : hdL (l.getD 0 0) ≤ (l.length : Int))
    (h : okL l (hdL (l.getD 0 0)).toNat = true ∧ sgn (accL l ((hdL (l.getD 0 0)).toNat - 1)) = true ∧ wid (accL l ((hdL (l.getD 0 0)).toNat - 1)) = hdL (l.getD 0 0)) :
    fst l = (accL l ((hdL (l.getD 0 0)).toNat - 1), hdL (l.getD 0 0)) := by
  unfold fst; rw [if_neg (by omega), if_neg (by omega), if_pos h]
theorem fst_bad (l : List UInt8) (h0 : 1 ≤ hdL (l.getD 0 0)) (h1 : hdL (l.getD 0 0) ≤ (l.length : Int))
    (h : okL l (hdL (l.getD 0 0)).toNat = false ∨ sgn (accL l ((hdL (l.getD 0 0)).toNat - 1)) = false ∨ wid (accL l ((hdL (l.getD 0 0)).toNat - 1)) ≠ hdL (l.getD 0 0)) :
    fst l = (-1, 1) := by
  unfold fst; rw [if_neg (by omega), if_neg (by omega), if_neg]
  rintro ⟨a, b, c⟩
  rcases h with h | h | h
  · rw [a] at h; cases h
  · rw [b] at h; cases h
  · exact h c

theorem sgn_bd {n : Int} (h : sgn n = true) : 0 ≤ n ∧ n ≤ 1114111 ∧ (n < 55296 ∨ 57343 < n) := by
  unfold sgn inR at h
  simp at h
  omega
/-- a byte's sign: by its first byte, and how many there are -/
theorem byt_parts {n : Int} (h0 : 0 ≤ n) (h1 : n ≤ 1114111) :
    (byt n = [n] ∧ n < 128) ∨ (byt n = [192 + n / 64, 128 + n % 64] ∧ 128 ≤ n ∧ n < 2048) ∨
    (byt n = [224 + n / 4096, 128 + n / 64 % 64, 128 + n % 64] ∧ 2048 ≤ n ∧ n < 65536) ∨
    (byt n = [240 + n / 262144, 128 + n / 4096 % 64, 128 + n / 64 % 64, 128 + n % 64] ∧ 65536 ≤ n) := by
  unfold byt
  by_cases c1 : n < 128
  · rw [if_pos c1]; exact .inl ⟨rfl, c1⟩
  by_cases c2 : n < 2048
  · rw [if_neg c1, if_pos c2]; exact .inr (.inl ⟨rfl, by omega, c2⟩)
  by_cases c3 : n < 65536
  · rw [if_neg c1, if_neg c2, if_pos c3]; exact .inr (.inr (.inl ⟨rfl, by omega, c3⟩))
  · rw [if_neg c1, if_neg c2, if_neg c3]; exact .inr (.inr (.inr ⟨rfl, by omega⟩))
theorem byt_rng {n : Int} (h0 : 0 ≤ n) (h1 : n ≤ 1114111) : ∀ x ∈ byt n, 0 ≤ x ∧ x < 256 := by
  intro x hx
  rcases byt_parts h0 h1 with ⟨e, _⟩ | ⟨e, _⟩ | ⟨e, _⟩ | ⟨e, _⟩ <;> rw [e] at hx <;> simp at hx <;> omega

/-- P1.4: a sign's bytes begin no other one's, and lie within none -/
theorem apart_list {a b : Int} (ha : 0 ≤ a) (ha' : a ≤ 1114111) (hb : 0 ≤ b) (hb' : b ≤ 1114111) (hne : a ≠ b) (i : Nat) (hi : i + (byt a).length ≤ (byt b).length) :
    ((byt b).drop i).take (byt a).length ≠ byt a := by
  intro h
  rcases byt_parts ha ha' with ⟨ea, ca⟩ | ⟨ea, ca⟩ | ⟨ea, ca⟩ | ⟨ea, ca⟩ <;> rcases byt_parts hb hb' with ⟨eb, cb⟩ | ⟨eb, cb⟩ | ⟨eb, cb⟩ | ⟨eb, cb⟩ <;> rw [ea, eb] at h hi <;> simp only [List.length_cons, List.length_nil] at hi h
  all_goals
    have h4 : i = 0 ∨ i = 1 ∨ i = 2 ∨ i = 3 := by omega
    rcases h4 with rfl | rfl | rfl | rfl
  all_goals first | (exfalso; omega) | (simp at h; omega)

end Go.Proofs.YtkggdjghjdakoaaGreatDoor.Utf
