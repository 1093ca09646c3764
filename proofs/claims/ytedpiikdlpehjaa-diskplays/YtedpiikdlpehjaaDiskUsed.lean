/- (table).used, told, Used. -/
import Derived.Test.YtedpiikdlpehjaaDiskSettle
import Derived.Maps.RangeWalk
namespace Go.Proofs.Ytedpiikdlpehjaa.Dsk
open Go Go.RowKit Go.Maps
set_option linter.unusedSimpArgs false
set_option linter.unusedVariables false

/-- the bytes of those names that are no longer to come -/
def got (fs : List Fl) (t : Tbl) (left : Lit → Bool) : Nat := (t.map fun p => if left (.string p.1) then 0 else (fs.getD p.2 nul).data.length).sum
theorem got_start (fs : List Fl) (left : Lit → Bool) : ∀ t : Tbl, (∀ p ∈ t, left (.string p.1) = true) → got fs t left = 0
  | [], _ => rfl
  | p :: r, h => by
    have h1 := got_start fs left r (fun q hq => h q (List.mem_cons_of_mem _ hq))
    unfold got at *
    simp only [List.map_cons, List.sum_cons, h p List.mem_cons_self, if_true, Nat.zero_add]
    exact h1
theorem got_end (fs : List Fl) (left : Lit → Bool) (hl : ∀ k, left k = false) (t : Tbl) : got fs t left = total fs t := by
  unfold got total
  congr 1
  apply List.map_congr_left
  intro p _
  rw [hl]
  rfl
theorem got_le (fs : List Fl) (left : Lit → Bool) : ∀ t : Tbl, got fs t left ≤ total fs t
  | [] => Nat.le_refl _
  | p :: r => by
    have h1 := got_le fs left r
    unfold got total at *
    simp only [List.map_cons, List.sum_cons]
    split <;> omega
theorem got_same (fs : List Fl) (left : Lit → Bool) (x : Nm) : ∀ t : Tbl, (∀ p ∈ t, p.1 ≠ x) → got fs t (fun z => left z && !z.sameKey (.string x)) = got fs t left
  | [], _ => rfl
  | p :: r, h => by
    have h1 := got_same fs left x r (fun q hq => h q (List.mem_cons_of_mem _ hq))
    have h2 : (Lit.string p.1).sameKey (.string x) = false := by simp [Lit.sameKey, h p List.mem_cons_self]
    unfold got at *
    simp only [List.map_cons, List.sum_cons, h2, Bool.not_false, Bool.and_true]
    rw [h1]
theorem got_step (fs : List Fl) (left : Lit → Bool) (x : Nm) (i : Nat) (hx : left (.string x) = true) : ∀ t : Tbl, (t.Pairwise fun p q => p.1 ≠ q.1) → (x, i) ∈ t → got fs t (fun z => left z && !z.sameKey (.string x)) = got fs t left + (fs.getD i nul).data.length
  | [], _, h => by cases h
  | p :: r, hp, h => by
    rw [List.pairwise_cons] at hp
    by_cases e : p.1 = x
    · have hi : p.2 = i := by
        rcases List.mem_cons.1 h with q | q
        · rw [← q]
        · exact absurd e (hp.1 _ q)
      have h1 := got_same fs left x r (fun q hq => by rw [← e]; exact (hp.1 q hq).symm)
      have h2 : (Lit.string x).sameKey (.string x) = true := by simp [Lit.sameKey]
      unfold got at *
      simp only [List.map_cons, List.sum_cons, e, h2, Bool.not_true, Bool.and_false, hx, if_true, hi]
      rw [h1]
      simp only [if_false, Nat.zero_add, Bool.false_eq_true]
      omega
    · have hm : (x, i) ∈ r := by
        rcases List.mem_cons.1 h with q | q
        · exact absurd (by rw [← q]) e
        · exact q
      have h1 := got_step fs left x i hx r hp.2 hm
      have h2 : (Lit.string p.1).sameKey (.string x) = false := by simp [Lit.sameKey, e]
      unfold got at *
      simp only [List.map_cons, List.sum_cons, h2, Bool.not_false, Bool.and_true]
      rw [h1]
      omega
theorem Held.form {w : World} {v : Value} {l : List UInt8} (h : Held w v l) : ∃ a cap, v = .slice a l.length cap := by
  rcases h with ⟨rfl, rfl⟩ | ⟨g, cap, cur, rfl, _⟩
  · exact ⟨_, _, rfl⟩
  · exact ⟨_, _, rfl⟩
theorem dat_has {ad : List Nat} {t : Tbl} {p : Nm × Nat} (h : p ∈ t) : Maps.has (dat ad t) (.string p.1) = true := by
  simp only [dat, Maps.has_eq, List.any_map, List.any_eq_true]
  exact ⟨p, h, by simp [ent, Lit.sameKey]⟩
theorem dat_mem {ad : List Nat} {t : Tbl} (hr : Rising t) {x : Nm} {y : DataW Unit} (h : ∀ zd, (dat ad t).atKey (.string x) zd = y) : ∃ i, (x, i) ∈ t ∧ y = .lit (.int .i64 (ad.getD i 0)) := by
  have h1 := Maps.has_true_of_atKey h
  simp only [dat, Maps.has_eq, List.any_map, List.any_eq_true] at h1
  obtain ⟨p, hp, he⟩ := h1
  have e : p.1 = x := by simpa [ent, Lit.sameKey] using he
  obtain ⟨a, i⟩ := p
  subst e
  refine ⟨i, hp, ?_⟩
  rw [← h .nil, dat_at, mem_look hr hp]
  rfl
section
variable {w : World} {F : Nat → Prop} {d : Nat} {m : M} {ad : List Nat} {dv : List Value} {nB kB : Nat} {sv : Value}
set_option maxHeartbeats 1000000 in
theorem DiskIn.tused (h : DiskIn w F d m ad dv nB kB sv) (hok : Ok m.names m.files.length) (hb : m.used ≤ 1099511627776) : Go.Calls Try.prog 40 #[.map (some nB)] w fun e w' => e = .returned (.int .i64 m.used) ∧ Below w.heap.size w w' := by
  have H : Hid (DiskIn w F d m ad dv nB kB sv) := h
  have HOK : Hid (Ok m.names m.files.length) := hok
  have HB : Hid (m.used ≤ 1099511627776) := hb
  have HOWN : Hid (w.ownsMap Try.prog 9 elemR nB m.names.length (dat ad m.names)) := h.names
  obtain ⟨r, HR⟩ : ∃ r, Hid (r = w.heap.size) := ⟨_, rfl⟩
  obtain ⟨u, HU⟩ : ∃ u, Hid (u = m.used) := ⟨_, rfl⟩
  rw [← HU.out]
  clear h hok hb
  go_enter Try.func40, Try.ntmps40
  go_wp2_with (at_range; refine wpList_range_own _ rfl _ 59 rfl 9 76 strKeyed Try.underlying59 elemR nB m.names.length (dat ad m.names) rfl HOWN.out ?_)
  intro w0 hrg0 hg0 hs0
  rw [← HR.out] at hrg0 ⊢
  have HB0 : Hid (Below w.heap.size w w0) := (Below.refl _ w).grown hg0 (Nat.le_refl _) (fun k hk => by cases hk)
  clear hs0 hg0
  go_wp2_with fail
  try go_frame
  go_loopw [3, 8] (fun s _ wr => ∃ left cnt, ∃ n : Nat, s = .int .i64 n ∧ n = got m.files m.names left ∧ wr.ranges Try.prog 9 elemR nB r m.names.length (dat ad m.names) left cnt ∧ Below w.heap.size w wr) (fun _ _ wr => wr.rangeLeft nB r)
  case atStart => exact ⟨_, _, 0, rfl, (got_start _ _ _ fun p hp => dat_has hp).symm, hrg0, HB0.out⟩
  case round =>
    obtain ⟨left, cnt, n, rfl, hn, hrg, hbe⟩ := hrel
    have HN : Hid (n = got m.files m.names left) := hn
    have HBE : Hid (Below w.heap.size w wr) := hbe
    have HRG : Hid (wr.ranges Try.prog 9 elemR nB r m.names.length (dat ad m.names) left cnt) := hrg
    have hnb : n ≤ 1099511627776 := by rw [hn]; exact Nat.le_trans (got_le _ _ _) HB.out
    clear hn hrg hbe
    go_wp2_with (at_next; refine wpList_next_ranges _ rfl _ rfl 9 strKeyed elemR encStr Value.pointer (fun key kl hk => by obtain ⟨x, hx, _⟩ := Maps.keyOf_str Try.underlying9 hk; exact ⟨x, hx⟩) (fun v y hv => by rcases elemR_inv hv with ⟨rfl, _⟩ | ⟨b, rfl, _⟩ <;> exact ⟨_, rfl⟩) nB r m.names.length _ _ _ rfl HRG.out ?_ ?_)
    · intro _ hl0
      have HF : Hid (n = m.used) := by
        show _ = _
        rw [HN.out, got_end _ _ hl0]
        rfl
      go_wp2
      go_ret
      exact ⟨by rw [HU.out, ← HF.out]; rfl, HBE.out⟩
    · intro x c kl yd yp w2 cnt2 hkey hlk hv hat hrg2 hlt2 hg2 hs2 hen
      obtain ⟨x', ex, rfl, _⟩ := Maps.keyOf_str Try.underlying9 hkey
      obtain rfl : x = x' := encStr_inj ex
      obtain ⟨i, hi, hy⟩ := dat_mem HOK.out.rise hat
      have hii := HOK.out.less _ hi
      obtain rfl : c = some ⟨ad.getD i 0, 0, none⟩ := by
        rcases elemR_inv hv with ⟨_, q⟩ | ⟨b, q, q'⟩
        · rw [hy] at q; simp at q
        · rw [hy] at q'
          simp only [Prod.mk.injEq, DataW.lit.injEq, Lit.int.injEq, true_and, and_true] at q'
          have e2 : ad.getD i 0 = b := Int.ofNat.inj q'.1
          rw [e2]
          cases q
          rfl
      have HB2 : Hid (Below w.heap.size w w2) := HBE.out.grown hg2 HBE.out.size (fun k hk => by cases hk; rw [HR.out]; exact Nat.le_refl _)
      have HS : Hid (got m.files m.names (fun z => left z && !z.sameKey (.string x)) = n + (m.file i).data.length) := by
        show _ = _
        rw [got_step m.files left x i hlk m.names (rising_apart HOK.out.rise) hi, HN.out]
        rfl
      have hle : n + (m.file i).data.length ≤ 1099511627776 := by
        rw [← HS.out]
        exact Nat.le_trans (got_le _ _ _) HB.out
      obtain ⟨fb, HFB⟩ : ∃ f, Hid (f = ad.getD i 0) := ⟨_, rfl⟩
      obtain ⟨va, vc, hva⟩ := (H.out.file i hii).held.form
      obtain ⟨fl, HFL⟩ : ∃ f, Hid (f = (m.file i).data.length) := ⟨_, rfl⟩
      rw [← HFL.out] at hva hle HS
      rw [← HFB.out] at hen ⊢
      have hc : w2.cell? ⟨fb, 0, none⟩ = some (.slice va fl vc) := by
        have h1 := (H.out.file i hii).cell.cell 0
        rw [hva, ← HFB.out] at h1
        rw [HB2.out.cell (p := ⟨fb, 0, none⟩) (by rw [HFB.out]; exact H.out.lt _ (H.out.ff i hii))]
        exact h1
      have HM : Hid (w2.rangeLeft nB r < wr.rangeLeft nB r) := by
        show _ < _
        rw [hrg2.left_eq, HRG.out.left_eq]; exact hlt2
      have HRG2 : Hid (w2.ranges Try.prog 9 elemR nB r m.names.length (dat ad m.names) (fun z => left z && !z.sameKey (.string x)) cnt2) := hrg2
      clear hs2 hrg2 hlt2 hg2 hat hv hkey hy hlk hva ex
      go_wp2
      go_roundw
      case rel => exact ⟨_, _, n + fl, by go_num, HS.out.symm, HRG2.out, HB2.out⟩
      case measure => exact HM.out
end
end Go.Proofs.Ytedpiikdlpehjaa.Dsk
