/- The calls that are done: Append, Sync without power. -/
import Derived.Test.YtedpiikdlpehjaaDiskOps2
namespace Go.Proofs.Ytedpiikdlpehjaa.Dsk
open Go Go.RowKit Go.Maps
set_option linter.unusedSimpArgs false
set_option linter.unusedVariables false

section
variable {w : World} {F : Nat → Prop} {d : Nat} {m : M} {ad : List Nat} {dv : List Value} {nB kB : Nat} {sv : Value}
theorem DiskIn.sync_down (h : DiskIn w F d m ad dv nB kB sv) (ho : m.on = true) (hf : m.fuse = 0) (n : Nm) (hn : n.length ≤ maxLen) (i : Nat) (hl : look m.names n = some i) :
    Go.Calls Try.prog 22 #[.pointer (some ⟨d, 0, none⟩), .string (str n)] w fun e w' => e = .returned (.int .i64 15) ∧ DiskIn w' F d m.off ad dv nB kB sv ∧ Only F w w' := by
  have h1 := h.find_some ho n hn i hl
  have h2 := h.spend_off hf
  generalize ad.getD i 0 = fb at h1
  obtain ⟨S, HS⟩ : ∃ S, Hid (S = str n) := ⟨_, rfl⟩
  rw [← HS.out] at h1 ⊢
  clear h ho hf hn hl
  go_enter Try.func22, Try.ntmps22
  go_wp2_with (first | (go_at_call 42; refine h1.mono ?_; rintro e w' ⟨rfl, rfl⟩) | (go_at_call 47; refine h2.mono ?_; rintro e w1 ⟨rfl, h3, hO⟩))
  go_ret
  exact ⟨rfl, h3, hO⟩
set_option maxHeartbeats 1000000 in
theorem DiskIn.append_down (h : DiskIn w F d m ad dv nB kB sv) (ho : m.on = true) (hz : m.fuse = 0) (n : Nm) (hn : n.length ≤ maxLen) (i : Nat) (hl : look m.names n = some i) (hok : Ok m.names m.files.length) (hb : m.used ≤ 1099511627776) (hr : m.room ≤ 1048576) (a : Option Addr) (len cap : Nat) (hf : m.used + len ≤ m.room) :
    Go.Calls Try.prog 21 #[.pointer (some ⟨d, 0, none⟩), .string (str n), .slice a len cap] w fun e w' => e = .returned (.int .i64 15) ∧ DiskIn w' F d m.off ad dv nB kB sv ∧ Only F w w' := by
  have h1 := h.find_some ho n hn i hl
  have hD : DiskIn w.drew F d m ad dv nB kB sv := h.at_ (Nat.le_refl _) (fun _ _ => rfl)
  have h2 := hD.tused hok hb
  have hc5 := h.c5
  have hc2 := h.c2
  have H : Hid (DiskIn w F d m ad dv nB kB sv) := h
  have HZ : Hid (m.fuse = 0) := hz
  have HDL : Hid (d < w.heap.size) := h.cell.lt
  obtain ⟨u, HU⟩ : ∃ u, Hid (u = m.used) := ⟨_, rfl⟩
  obtain ⟨r, HR⟩ : ∃ r, Hid (r = m.room) := ⟨_, rfl⟩
  rw [← HU.out] at h2 hb hf
  rw [← HR.out] at hc2 hf hr
  obtain ⟨S, HS⟩ : ∃ S, Hid (S = str n) := ⟨_, rfl⟩
  rw [← HS.out] at h1 ⊢
  generalize ad.getD i 0 = fb at h1
  have hd : decide ((r : Int) < (u : Int) + (len : Int)) = false := decide_eq_false (by omega)
  have hwr : IntKind.i64.wrap ((u : Int) + (len : Int)) = (u : Int) + (len : Int) := by simp [IntKind.wrap, IntKind.bits, IntKind.signed]; omega
  clear h ho hn hl hok hD hf hz
  go_enter Try.func21, Try.ntmps21
  go_wp2_with (go_at_call 42; refine h1.mono ?_; rintro e w' ⟨rfl, rfl⟩)
  go_region_held3 (fun w' => w'.cell? ⟨d, 5, none⟩ = some (.map (some nB)) ∧ w'.cell? ⟨d, 2, none⟩ = some (.int .i64 r)) (go_keep) (first | (go_at_call 40; refine h2.mono ?_; rintro e w1 ⟨rfl, hB⟩; have k5 := (hB.cell (p := ⟨d, 5, none⟩) HDL.out).trans hc5; have k2 := (hB.cell (p := ⟨d, 2, none⟩) HDL.out).trans hc2))
  have HB : Hid (Below w.heap.size w w1) := ((Below.refl _ w).drew).trans hB
  have h4 := (H.out.at_ HB.out.size (fun k hk => HB.out.block k (H.out.lt k hk))).spend_off HZ.out
  clear hB k5 k2 h2 hc5 hc2
  go_wp2_with (go_at_call 47; refine h4.mono ?_; rintro e w2 ⟨rfl, h3, hO⟩)
  go_ret
  exact ⟨rfl, h3, (Only.of_below HB.out).step hO⟩
set_option maxHeartbeats 1000000 in
theorem DiskIn.append_ok (h : DiskIn w F d m ad dv nB kB sv) (ho : m.on = true) (hz : m.fuse ≠ 0) (hw : -1 ≤ m.fuse ∧ m.fuse ≤ 9223372036854775807) (hc : m.calls < 4611686018427387904) (n : Nm) (hn : n.length ≤ maxLen) (i : Nat) (hl : look m.names n = some i) (hi : i < m.files.length) (hok : Ok m.names m.files.length) (hb : m.used ≤ 1099511627776) (hr : m.room ≤ 1048576) (hfl : (m.file i).data.length ≤ 1048576)
    (a : Option Addr) (len cap : Nat) (bs : List UInt8) (hS : Bys w a len bs) (hsrc : ∀ b off, a = some ⟨b, off, none⟩ → 0 < len → ¬ F b) (hf : m.used + len ≤ m.room) :
    Go.Calls Try.prog 21 #[.pointer (some ⟨d, 0, none⟩), .string (str n), .slice a len cap] w fun e w' => e = .returned (.int .i64 0) ∧ ∃ v', DiskIn w' (fun k => F k ∨ Value.ownBlock v' = some k) d { m.spent with files := m.files.set i ⟨(m.file i).data ++ bs, (m.file i).kept⟩ } ad (dv.set i v') nB kB sv ∧ (∀ k, v'.ownBlock = some k → F k ∨ w.heap.size ≤ k) ∧ Only F w w' := by
  have h1 := h.find_some ho n hn i hl
  have hD : DiskIn w.drew F d m ad dv nB kB sv := h.at_ (Nat.le_refl _) (fun _ _ => rfl)
  have h2 := hD.tused hok hb
  have hc5 := h.c5
  have hc2 := h.c2
  have H : Hid (DiskIn w F d m ad dv nB kB sv) := h
  have HZ : Hid (m.fuse ≠ 0 ∧ (-1 ≤ m.fuse ∧ m.fuse ≤ 9223372036854775807) ∧ m.calls < 4611686018427387904) := ⟨hz, hw, hc⟩
  have HDL : Hid (d < w.heap.size) := h.cell.lt
  have HI : Hid (i < m.files.length) := hi
  have HSRC : Hid (∀ b off, a = some ⟨b, off, none⟩ → 0 < len → ¬ F b) := hsrc
  have HSS : Hid (Bys w a len bs) := hS
  have HM : Hid ((m.file i).data.length + len ≤ 140737488355328) := by show _ ≤ _; omega
  obtain ⟨u, HU⟩ : ∃ u, Hid (u = m.used) := ⟨_, rfl⟩
  obtain ⟨r, HR⟩ : ∃ r, Hid (r = m.room) := ⟨_, rfl⟩
  rw [← HU.out] at h2 hb hf
  rw [← HR.out] at hc2 hf hr
  obtain ⟨S, HS⟩ : ∃ S, Hid (S = str n) := ⟨_, rfl⟩
  rw [← HS.out] at h1 ⊢
  obtain ⟨fb, HFB⟩ : ∃ f, Hid (f = ad.getD i 0) := ⟨_, rfl⟩
  rw [← HFB.out] at h1
  have hd : decide ((r : Int) < (u : Int) + (len : Int)) = false := decide_eq_false (by omega)
  have hwr : IntKind.i64.wrap ((u : Int) + (len : Int)) = (u : Int) + (len : Int) := by simp [IntKind.wrap, IntKind.bits, IntKind.signed]; omega
  clear h ho hn hl hok hD hf hz hw hc hi hsrc hS hfl
  go_enter Try.func21, Try.ntmps21
  go_wp2_with (go_at_call 42; refine h1.mono ?_; rintro e w' ⟨rfl, rfl⟩)
  go_region_held3 (fun w' => w'.cell? ⟨d, 5, none⟩ = some (.map (some nB)) ∧ w'.cell? ⟨d, 2, none⟩ = some (.int .i64 r)) (go_keep) (first | (go_at_call 40; refine h2.mono ?_; rintro e w1 ⟨rfl, hB⟩; have k5 := (hB.cell (p := ⟨d, 5, none⟩) HDL.out).trans hc5; have k2 := (hB.cell (p := ⟨d, 2, none⟩) HDL.out).trans hc2))
  have HB : Hid (Below w.heap.size w w1) := ((Below.refl _ w).drew).trans hB
  have h4 := (H.out.at_ HB.out.size (fun k hk => HB.out.block k (H.out.lt k hk))).spend_on HZ.out.1 HZ.out.2.1 HZ.out.2.2
  clear hB k5 k2 h2 hc5 hc2
  go_wp2_with fail
  refine h4.mono ?_
  rintro e w2 ⟨rfl, h3, hO⟩
  have H3 : Hid (DiskIn w2 F d m.spent ad dv nB kB sv) := h3
  have HO : Hid (Only F w w2) := (Only.of_below HB.out).step hO
  have HI' : Hid (i < m.spent.files.length) := HI.out
  have HS2 : Hid (Bys w2 a len bs) := HSS.out.only HO.out HSRC.out
  have HC : Hid (Row w2 fb 81 [dv.getD i undef, .int .i64 (m.file i).kept]) := by rw [HFB.out]; exact (h3.file i HI'.out).cell
  have HH : Hid (Held w2 (dv.getD i undef) (m.file i).data) := (h3.file i HI'.out).held
  obtain ⟨va, vc, hva⟩ := (h3.file i HI'.out).held.form
  have hva' : dv.getD i undef = .slice va (m.file i).data.length vc := hva
  obtain ⟨vl, HVL⟩ : ∃ x, Hid (x = (m.file i).data.length) := ⟨_, rfl⟩
  rw [← HVL.out] at hva' HM
  have HVA : Hid (dv.getD i undef = .slice va vl vc) := hva'
  rw [hva'] at HC HH
  have hc0 : w2.cell? ⟨fb, 0, none⟩ = some (.slice va vl vc) := HC.out.cell 0
  have hf0 := HC.out.free 0
  clear h3 hO hva hva' h4 h1
  go_wp2_with (at_builtin; refine wpList_append_held _ rfl _ _ rfl _ (m.file i).data rfl HH.out a len cap bs rfl HS2.out (by rw [← HVL.out]; exact HM.out) ?_)
  intro v' w3 hH hg hloc
  obtain ⟨pa, pc, hpa⟩ := hH.form
  obtain ⟨pl, HPL⟩ : ∃ x, Hid (x = ((m.file i).data ++ bs).length) := ⟨_, rfl⟩
  rw [← HPL.out] at hpa
  subst hpa
  have hne : some fb ≠ Value.ownBlock (.slice va vl vc) := fun q => by
    obtain ⟨cur, hr⟩ := HH.out.row q.symm
    exact absurd (hr.inj HC.out).1 (by decide)
  have HC3 : Hid (Row w3 fb 81 [.slice va vl vc, .int .i64 (m.file i).kept]) := HC.out.at_ (hg.block fb HC.out.lt hne)
  have hc3 : w3.cell? ⟨fb, 0, none⟩ = some (.slice va vl vc) := HC3.out.cell 0
  have hf3 := HC3.out.free 0
  have HFIN : Hid (DiskIn (w3.setCell ⟨fb, 0, none⟩ (.slice pa pl pc)) (fun k => F k ∨ Value.ownBlock (.slice pa pl pc) = some k) d { m.spent with files := m.files.set i ⟨(m.file i).data ++ bs, (m.file i).kept⟩ } ad (dv.set i (.slice pa pl pc)) nB kB sv ∧ (∀ k, Value.ownBlock (.slice pa pl pc) = some k → F k ∨ w.heap.size ≤ k) ∧ Only F w (w3.setCell ⟨fb, 0, none⟩ (.slice pa pl pc))) := by
    have hfb : F fb := by rw [HFB.out]; exact H3.out.ff i HI'.out
    have hlo : ∀ k, Value.ownBlock (.slice va vl vc) = some k → F k := fun k hk => H3.out.fr i HI'.out k (by rw [HVA.out]; exact hk)
    refine ⟨?_, fun k hk => ?_, (HO.out.grown hg (fun k hk => .inl (hlo k hk))).setCell (.inl hfb) _⟩
    · refine H3.out.refile (i := i) (v' := .slice pa pl pc) (f' := ⟨(m.file i).data ++ bs, (m.file i).kept⟩) HI'.out ?_ (fun k hk h1 h2 => ?_) ?_ (fun b hb => ?_)
      · have := hg.size
        simpa [World.setCell] using this
      · rw [← HFB.out] at h1
        rw [HVA.out] at h2
        rw [Below.heap_setCell _ _ _ _ h1]
        exact hg.block k (H3.out.lt k hk) (fun q => h2 q.symm)
      · rw [← HFB.out]
        refine ⟨HC3.out.set 0 _, hH.at_ fun b hb => Below.heap_setCell _ _ _ _ fun q => ?_⟩
        obtain ⟨cur, hr⟩ := hH.row hb
        have q' : b = fb := q
        exact absurd ((q' ▸ hr).inj HC3.out).1 (by decide)
      · rw [HVA.out]
        exact hloc b hb
    · rcases hloc k hk with q | q
      · exact .inl (hlo k q)
      · right
        have := HO.out.size
        omega
  clear hH hg hloc hne
  go_wp2
  go_ret
  exact ⟨rfl, _, HFIN.out⟩
end
end Go.Proofs.Ytedpiikdlpehjaa.Dsk
