/- Frames as lists of bytes: numbers, put, next, scan as plain functions. -/
import Derived.Test.YthmoapigjafijaaCrcPlain
namespace Go.Proofs.Ythmoapigjafijaa.Frm
open Crc
set_option linter.unusedSimpArgs false
set_option linter.unusedVariables false

/-- a number's bytes, the highest first -/
def be : Nat → Nat → List UInt8
  | 0, _ => []
  | k + 1, n => be k (n / 256) ++ [UInt8.ofNat (n % 256)]
theorem be_len (k n : Nat) : (be k n).length = k := by
  induction k generalizing n with
  | zero => rfl
  | succ k ih => rw [be, List.length_append, ih]; rfl
/-- a number of bytes -/
def valA (a : Nat) (l : List UInt8) : Nat := l.foldl (fun a b => a * 256 + b.toNat) a
def val (l : List UInt8) : Nat := valA 0 l
theorem val_snoc (l : List UInt8) (b : UInt8) : val (l ++ [b]) = val l * 256 + b.toNat := by simp [val, valA, List.foldl_append]
theorem val_be (k n : Nat) (h : n < 256 ^ k) : val (be k n) = n := by
  induction k generalizing n with
  | zero => simp at h; subst h; rfl
  | succ k ih =>
    rw [Nat.pow_succ] at h
    rw [be, val_snoc, ih _ (Nat.div_lt_of_lt_mul (by rw [Nat.mul_comm]; exact h)), UInt8.toNat_ofNat']
    have := Nat.mod_lt n (show 0 < 256 by decide)
    rw [show 2 ^ 8 = 256 by decide, Nat.mod_mod]
    omega
theorem val_lt (l : List UInt8) : val l < 256 ^ l.length := by
  have H : ∀ n (l : List UInt8), l.length = n → val l < 256 ^ n := by
    intro n
    induction n with
    | zero => intro l hl; rw [List.eq_nil_of_length_eq_zero hl]; decide
    | succ n ih =>
      intro l hl
      have hne : l ≠ [] := by intro e; rw [e] at hl; cases hl
      have hd := List.dropLast_concat_getLast hne
      have h1 := ih l.dropLast (by rw [List.length_dropLast]; omega)
      rw [← hd, val_snoc, Nat.pow_succ]
      have := (l.getLast hne).toNat_lt
      omega
  exact H _ l rfl
theorem be_val (l : List UInt8) : be l.length (val l) = l := by
  have H : ∀ n (l : List UInt8), l.length = n → be n (val l) = l := by
    intro n
    induction n with
    | zero => intro l hl; rw [List.eq_nil_of_length_eq_zero hl]; rfl
    | succ n ih =>
      intro l hl
      have hne : l ≠ [] := by intro e; rw [e] at hl; cases hl
      have hd := List.dropLast_concat_getLast hne
      have h1 := ih l.dropLast (by rw [List.length_dropLast]; omega)
      have hb := (l.getLast hne).toNat_lt
      generalize l.getLast hne = x at hd hb
      generalize l.dropLast = m at hd h1
      rw [← hd, val_snoc, be, show (val m * 256 + x.toNat) / 256 = val m by omega, show (val m * 256 + x.toNat) % 256 = x.toNat by omega, h1, UInt8.ofNat_toNat]
  exact H _ l rfl

def magic : List UInt8 := [89, 82, 69, 67]
def most : Nat := 262144
def maxSeq : Nat := 4611686018427387904
/-- the twelve bytes: how many, and the number -/
def hed (n s : Nat) : List UInt8 := be 4 n ++ be 8 s
theorem hed_len (n s : Nat) : (hed n s).length = 12 := by rw [hed, List.length_append, be_len, be_len]
/-- the four bytes of the sum -/
def sm (n s : Nat) (d : List UInt8) : List UInt8 := be 4 (sum (hed n s ++ d)).toNat
theorem sm_len (n s : Nat) (d : List UInt8) : (sm n s d).length = 4 := be_len _ _
/-- a frame -/
def frm (s : Nat) (d : List UInt8) : List UInt8 := magic ++ (hed d.length s ++ (sm d.length s d ++ d))
theorem frm_len (s : Nat) (d : List UInt8) : (frm s d).length = 20 + d.length := by
  simp only [frm, List.length_append, hed_len, sm_len]
  show 4 + (12 + (4 + d.length)) = _
  omega
/-- P4.1 -/
def putE (s : Int) (d : List UInt8) : Nat := if s < 1 ∨ s > (maxSeq : Int) then 1 else if d.length > most then 5 else 0
def putB (s : Int) (d : List UInt8) : List UInt8 := if putE s d = 0 then frm s.toNat d else []

/-- do bytes begin as YREC does, as far as there are some -/
def beg (b : List UInt8) : Bool := b.take 4 == magic.take b.length
def cut (b : List UInt8) (i j : Nat) : List UInt8 := (b.take j).drop i
/-- the error of P4.2 -/
def nxtE (b : List UInt8) : Nat :=
  if beg b = false then 3 else if b.length < 20 then 4
  else if val (cut b 4 8) > most then 5 else if val (cut b 8 16) < 1 ∨ val (cut b 8 16) > maxSeq then 1
  else if b.length - 20 < val (cut b 4 8) then 4
  else if (sum (cut b 4 16 ++ cut b 20 (20 + val (cut b 4 8)))).toNat ≠ val (cut b 16 20) then 13 else 0
def nxtS (b : List UInt8) : Nat := if nxtE b = 0 then val (cut b 8 16) else 0
def nxtD (b : List UInt8) : List UInt8 := if nxtE b = 0 then cut b 20 (20 + val (cut b 4 8)) else []
def nxtN (b : List UInt8) : Nat := if nxtE b = 0 then 20 + val (cut b 4 8) else 0

theorem cut_len (b : List UInt8) (i j : Nat) (h : j ≤ b.length) : (cut b i j).length = j - i := by
  rw [cut, List.length_drop, List.length_take, Nat.min_eq_left h]
theorem cut_app (a m r : List UInt8) (i j : Nat) (hi : a.length = i) (hj : a.length + m.length = j) : cut (a ++ (m ++ r)) i j = m := by
  subst hi; subst hj
  rw [cut, ← List.append_assoc, List.take_append_of_le_length (by rw [List.length_append]; omega), List.take_of_length_le (by rw [List.length_append]; omega), List.drop_left]
theorem cut_join (b : List UInt8) (i j k : Nat) (hij : i ≤ j) (hjk : j ≤ k) : cut b i j ++ cut b j k = cut b i k := by
  unfold cut
  apply List.ext_getElem?
  intro n
  by_cases hn : n < ((b.take j).drop i).length
  · rw [List.getElem?_append_left hn]
    rw [List.length_drop, List.length_take] at hn
    rw [List.getElem?_drop, List.getElem?_drop, List.getElem?_take, List.getElem?_take, if_pos (by omega), if_pos (by omega)]
  · rw [List.getElem?_append_right (by omega)]
    rw [List.length_drop, List.length_take] at hn
    rw [List.getElem?_drop, List.getElem?_drop, List.getElem?_take, List.getElem?_take, List.length_drop, List.length_take]
    by_cases hb : j ≤ b.length
    · rw [Nat.min_eq_left hb, show j + (n - (j - i)) = i + n by rw [Nat.min_eq_left hb] at hn; omega]
    · rw [Nat.min_eq_right (by omega)]
      rw [Nat.min_eq_right (by omega)] at hn
      rw [List.getElem?_eq_none (l := b) (by omega), List.getElem?_eq_none (l := b) (by omega)]
      split <;> split <;> rfl
theorem cut_zero (b : List UInt8) (j : Nat) : cut b 0 j = b.take j := rfl
theorem beg_magic {b : List UInt8} (h : 4 ≤ b.length) : beg b = (b.take 4 == magic) := by
  unfold beg
  rw [List.take_of_length_le (l := magic) (by show 4 ≤ _; exact h)]

/-- what begins with a frame has it next -/
theorem parts_frm (s : Nat) (d r : List UInt8) : (frm s d ++ r).take 4 = magic ∧ cut (frm s d ++ r) 4 8 = be 4 d.length ∧ cut (frm s d ++ r) 8 16 = be 8 s ∧ cut (frm s d ++ r) 16 20 = sm d.length s d ∧ cut (frm s d ++ r) 4 16 = hed d.length s ∧ cut (frm s d ++ r) 20 (20 + d.length) = d := by
  have e : frm s d ++ r = magic ++ (hed d.length s ++ (sm d.length s d ++ (d ++ r))) := by simp only [frm, List.append_assoc]
  have hm : magic.length = 4 := rfl
  refine ⟨?_, ?_, ?_, ?_, ?_, ?_⟩
  · rw [e]; exact List.take_left' hm
  · rw [e, hed, List.append_assoc]
    exact cut_app _ _ _ _ _ hm (by rw [be_len]; rfl)
  · rw [e, hed, List.append_assoc, ← List.append_assoc magic]
    exact cut_app _ _ _ _ _ (by rw [List.length_append, be_len]; rfl) (by rw [List.length_append, be_len, be_len]; rfl)
  · rw [e, ← List.append_assoc magic]
    exact cut_app _ _ _ _ _ (by rw [List.length_append, hed_len]; rfl) (by rw [List.length_append, hed_len, sm_len]; rfl)
  · rw [e]
    exact cut_app _ _ _ _ _ hm (by rw [hed_len]; rfl)
  · rw [e, ← List.append_assoc magic, ← List.append_assoc (magic ++ _)]
    exact cut_app _ _ _ _ _ (by rw [List.length_append, List.length_append, hed_len, sm_len]; rfl) (by rw [List.length_append, List.length_append, hed_len, sm_len]; rfl)
theorem sum_lt (l : List UInt8) : (sum l).toNat < 256 ^ 4 := (sum l).isLt
theorem nxt_frm (s : Nat) (d r : List UInt8) (h1 : 1 ≤ s) (h2 : s ≤ maxSeq) (hd : d.length ≤ most) :
    nxtE (frm s d ++ r) = 0 ∧ nxtS (frm s d ++ r) = s ∧ nxtD (frm s d ++ r) = d ∧ nxtN (frm s d ++ r) = 20 + d.length := by
  obtain ⟨p1, p2, p3, p4, p5, p6⟩ := parts_frm s d r
  have hl : (frm s d ++ r).length = 20 + d.length + r.length := by rw [List.length_append, frm_len]
  unfold most at hd
  unfold maxSeq at h2
  have v1 : val (be 4 d.length) = d.length := val_be 4 _ (by show d.length < 4294967296; omega)
  have v2 : val (be 8 s) = s := val_be 8 _ (by show s < 18446744073709551616; omega)
  have v3 : val (sm d.length s d) = (sum (hed d.length s ++ d)).toNat := val_be 4 _ (sum_lt _)
  have hE : nxtE (frm s d ++ r) = 0 := by
    unfold nxtE
    rw [beg_magic (by omega), p1, p2, p3, p4, p5, v1, v2, p6, v3]
    rw [if_neg (by decide), if_neg (by omega), if_neg (by unfold most; omega), if_neg (by unfold maxSeq; omega), if_neg (by omega), if_neg (by simp)]
  refine ⟨hE, ?_, ?_, ?_⟩
  · unfold nxtS; rw [if_pos hE, p3, v2]
  · unfold nxtD; rw [if_pos hE, p2, v1, p6]
  · unfold nxtN; rw [if_pos hE, p2, v1]
/-- what is got is a frame of what was got -/
theorem nxt_sound (b : List UInt8) (h : nxtE b = 0) : 1 ≤ nxtS b ∧ nxtS b ≤ maxSeq ∧ (nxtD b).length ≤ most ∧ nxtN b = 20 + (nxtD b).length ∧ nxtN b ≤ b.length ∧ b.take (nxtN b) = frm (nxtS b) (nxtD b) := by
  have h0 := h
  unfold nxtE at h
  split at h
  · cases h
  rename_i c1
  split at h
  · cases h
  rename_i c2
  split at h
  · cases h
  rename_i c3
  split at h
  · cases h
  rename_i c4
  split at h
  · cases h
  rename_i c5
  split at h
  · cases h
  rename_i c6
  have eS : nxtS b = val (cut b 8 16) := if_pos h0
  have eD : nxtD b = cut b 20 (20 + val (cut b 4 8)) := if_pos h0
  have eN : nxtN b = 20 + val (cut b 4 8) := if_pos h0
  have hlen : (nxtD b).length = val (cut b 4 8) := by rw [eD, cut_len _ _ _ (by omega)]; omega
  have hmg : b.take 4 = magic := by
    have : beg b = true := by cases hb : beg b <;> simp_all
    rw [beg_magic (by omega)] at this
    exact eq_of_beq this
  have b1 : be 4 (val (cut b 4 8)) = cut b 4 8 := by
    have := be_val (cut b 4 8)
    rwa [cut_len _ _ _ (by omega)] at this
  have b2 : be 8 (val (cut b 8 16)) = cut b 8 16 := by
    have := be_val (cut b 8 16)
    rwa [cut_len _ _ _ (by omega)] at this
  have b3 : be 4 (val (cut b 16 20)) = cut b 16 20 := by
    have := be_val (cut b 16 20)
    rwa [cut_len _ _ _ (by omega)] at this
  have hh : hed (val (cut b 4 8)) (val (cut b 8 16)) = cut b 4 16 := by rw [hed, b1, b2, cut_join _ _ _ _ (by omega) (by omega)]
  refine ⟨by omega, by omega, by omega, by omega, by omega, ?_⟩
  rw [frm, hlen, eS, sm, hh, eD, show (sum (cut b 4 16 ++ cut b 20 (20 + val (cut b 4 8)))).toNat = val (cut b 16 20) by simpa using c6, b3, ← hmg, ← cut_zero b 4, cut_join _ _ _ _ (by omega) (by omega), cut_join _ _ _ _ (by omega) (by omega), cut_join _ _ _ _ (by omega) (by omega), eN, cut_zero]
/-- a frame that is cut off ends too early -/
theorem nxt_cut (s : Nat) (d : List UInt8) (k : Nat) (h1 : 1 ≤ s) (h2 : s ≤ maxSeq) (hd : d.length ≤ most) (hk : k < 20 + d.length) : nxtE ((frm s d).take k) = 4 := by
  have hl : ((frm s d).take k).length = k := by rw [List.length_take, frm_len]; omega
  have hm4 : (frm s d).take 4 = magic := by have := (parts_frm s d []).1; rwa [List.append_nil] at this
  have hb : beg ((frm s d).take k) = true := by
    unfold beg
    rw [hl, List.take_take, Nat.min_comm, ← List.take_take, hm4]
    simp
  unfold nxtE
  rw [hl]
  rw [if_neg (by rw [hb]; decide)]
  by_cases h20 : k < 20
  · rw [if_pos h20]
  · rw [if_neg h20]
    obtain ⟨p1, p2, p3, p4, p5, p6⟩ := parts_frm s d []
    rw [List.append_nil] at p2 p3
    have c1 : cut ((frm s d).take k) 4 8 = be 4 d.length := by rw [cut, List.take_take, Nat.min_eq_left (by omega)]; exact p2
    have c2 : cut ((frm s d).take k) 8 16 = be 8 s := by rw [cut, List.take_take, Nat.min_eq_left (by omega)]; exact p3
    unfold most at hd
    unfold maxSeq at h2
    have v1 : val (be 4 d.length) = d.length := val_be 4 _ (by show d.length < 4294967296; omega)
    have v2 : val (be 8 s) = s := val_be 8 _ (by show s < 18446744073709551616; omega)
    rw [c1, c2, v1, v2, if_neg (by unfold most; omega), if_neg (by unfold maxSeq; omega), if_pos (by omega)]

/-- P4.3: the frames from b's beginning on -/
def scnF : Nat → List UInt8 → Nat → List (Nat × List UInt8)
  | 0, _, _ => []
  | f + 1, b, s => if nxtE b = 0 ∧ nxtS b = s then (s, nxtD b) :: (if s = maxSeq then [] else scnF f (b.drop (nxtN b)) (s + 1)) else []
def scn (b : List UInt8) (s : Nat) : List (Nat × List UInt8) := if s < 1 then [] else scnF (b.length + 1) b s
/-- how many bytes frames have -/
def wid (l : List (Nat × List UInt8)) : Nat := l.foldr (fun f n => 20 + f.2.length + n) 0
theorem nxtN_pos {b : List UInt8} (h : nxtE b = 0) : 20 ≤ nxtN b ∧ nxtN b ≤ b.length := by
  obtain ⟨_, _, _, h1, h2, _⟩ := nxt_sound b h
  omega
theorem scnF_more (f : Nat) (b : List UInt8) (s : Nat) (h : b.length < f) : scnF (f + 1) b s = scnF f b s := by
  induction f generalizing b s with
  | zero => omega
  | succ f ih =>
    show (if _ then _ else _) = (if _ then _ else _)
    by_cases hc : nxtE b = 0 ∧ nxtS b = s
    · rw [if_pos hc, if_pos hc]
      congr 1
      by_cases hm : s = maxSeq
      · rw [if_pos hm, if_pos hm]
      · have := nxtN_pos hc.1
        rw [if_neg hm, if_neg hm, ih _ _ (by rw [List.length_drop]; omega)]
    · rw [if_neg hc, if_neg hc]
theorem scnF_any (f g : Nat) (b : List UInt8) (s : Nat) (hf : b.length < f) (hg : b.length < g) : scnF f b s = scnF g b s := by
  have H : ∀ k, scnF (b.length + 1 + k) b s = scnF (b.length + 1) b s := by
    intro k
    induction k with
    | zero => rfl
    | succ k ih => rw [← Nat.add_assoc, scnF_more _ _ _ (by omega), ih]
  have e1 := H (f - (b.length + 1))
  have e2 := H (g - (b.length + 1))
  rw [show b.length + 1 + (f - (b.length + 1)) = f by omega] at e1
  rw [show b.length + 1 + (g - (b.length + 1)) = g by omega] at e2
  rw [e1, e2]
/-- one step of a scan -/
theorem scn_step (b : List UInt8) (s : Nat) (h : 1 ≤ s) : scn b s = if nxtE b = 0 ∧ nxtS b = s then (s, nxtD b) :: (if s = maxSeq then [] else scn (b.drop (nxtN b)) (s + 1)) else [] := by
  unfold scn
  rw [if_neg (by omega)]
  show (if _ then _ else _) = _
  by_cases hc : nxtE b = 0 ∧ nxtS b = s
  · rw [if_pos hc, if_pos hc]
    congr 1
    by_cases hm : s = maxSeq
    · rw [if_pos hm, if_pos hm]
    · have := nxtN_pos hc.1
      rw [if_neg hm, if_neg hm, if_neg (by omega)]
      exact scnF_any _ _ _ _ (by rw [List.length_drop]; omega) (by omega)
  · rw [if_neg hc, if_neg hc]

/-- frames laid in a row, by numbers from s on -/
def lays : List (List UInt8) → Nat → List UInt8
  | [], _ => []
  | d :: r, s => frm s d ++ lays r (s + 1)
def num : List (List UInt8) → Nat → List (Nat × List UInt8)
  | [], _ => []
  | d :: r, s => (s, d) :: num r (s + 1)
def fits (l : List (List UInt8)) : Prop := ∀ d ∈ l, d.length ≤ most
/-- what is put is got, in a row -/
theorem scn_lays (l : List (List UInt8)) (s : Nat) (r : List UInt8) (h1 : 1 ≤ s) (h2 : s + l.length ≤ maxSeq) (hf : fits l) (hr : scn r (s + l.length) = []) : scn (lays l s ++ r) s = num l s := by
  induction l generalizing s with
  | nil => simpa [lays, num] using hr
  | cons d l ih =>
    rw [List.length_cons] at h2 hr
    rw [lays, List.append_assoc, num, scn_step _ _ h1]
    obtain ⟨e1, e2, e3, e4⟩ := nxt_frm s d (lays l (s + 1) ++ r) h1 (by omega) (hf d List.mem_cons_self)
    rw [if_pos ⟨e1, e2⟩, e3, e4, if_neg (by omega), ← frm_len s d, List.drop_left]
    rw [ih (s + 1) (by omega) (by omega) (fun x hx => hf x (List.mem_cons_of_mem _ hx)) (by rw [show s + 1 + l.length = s + (l.length + 1) by omega]; exact hr)]
theorem scn_none (b : List UInt8) (s : Nat) (h : nxtE b ≠ 0 ∨ nxtS b ≠ s) : scn b s = [] := by
  by_cases h1 : 1 ≤ s
  · rw [scn_step _ _ h1, if_neg (by rcases h with h | h <;> simp [h])]
  · unfold scn; rw [if_pos (by omega)]
theorem wid_num (l : List (List UInt8)) (s : Nat) : wid (num l s) = (lays l s).length := by
  induction l generalizing s with
  | nil => rfl
  | cons d l ih =>
    rw [num, lays, List.length_append, frm_len, ← ih (s + 1)]
    rfl
theorem lays_app (l m : List (List UInt8)) (s : Nat) : lays (l ++ m) s = lays l s ++ lays m (s + l.length) := by
  induction l generalizing s with
  | nil => simp [lays]
  | cons d l ih =>
    rw [List.cons_append, lays, lays, ih, List.append_assoc, List.length_cons, show s + 1 + l.length = s + (l.length + 1) by omega]
/-- a frame of which a byte was turned is not got as it was -/
theorem nxt_turned (s : Nat) (d x r : List UInt8) (hx : x.length = (frm s d).length) (hne : x ≠ frm s d) (h0 : nxtE (x ++ r) = 0) (hs : nxtS (x ++ r) = s) : nxtD (x ++ r) ≠ d := by
  intro hd
  obtain ⟨_, _, _, h4, _, h6⟩ := nxt_sound _ h0
  apply hne
  rw [hs, hd] at h6
  rw [← h6, h4, hd, ← frm_len s d, ← hx, List.take_left]

end Go.Proofs.Ythmoapigjafijaa.Frm
