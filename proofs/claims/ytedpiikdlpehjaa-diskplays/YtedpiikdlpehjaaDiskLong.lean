/- Scripts: short, long. -/
import Derived.Test.YtedpiikdlpehjaaDiskArg2
namespace Go.Proofs.Ytedpiikdlpehjaa.Dsk
open Go Go.RowKit Go.Maps
set_option linter.unusedSimpArgs false
set_option linter.unusedVariables false

/-- how many calls are made -/
def cutN (len : Nat) : Nat := min len 150
theorem short_ok (a : Option Addr) (len cap : Nat) (w : World) (hlc : len ≤ cap) (hcm : cap ≤ maxLen) : Calls Try.prog 8 #[.slice a len cap] w fun e w' => e = .returned (.slice a (cutN len) cap) ∧ w = w' := by
  have hm : maxLen = 9223372036854775807 := rfl
  by_cases h : len ≤ 150
  · have hc : cutN len = len := by unfold cutN; omega
    have hmin : min (len : Int) 150 = len := by omega
    go_enter Try.func8, Try.ntmps8
    go_wp2
    go_ret
    rw [hc]
    exact ⟨rfl, rfl⟩
  · have hc : cutN len = 150 := by unfold cutN; omega
    have hmin : min (len : Int) 150 = 150 := by omega
    go_enter Try.func8, Try.ntmps8
    go_wp2
    go_ret
    rw [hc]
    exact ⟨rfl, rfl⟩
/-- what a call weighs -/
def wgt (r : Raw) : Nat := min r.dl 2097152 + min r.act.nA.length 1000 + min r.act.nB.length 1000
def wgts (rs : List Raw) : Nat := (rs.map wgt).sum
/-- not too long -/
def isLong (rs : List Raw) : Bool := decide (524288 < wgts (rs.take 150))
theorem wgts_at (rs : List Raw) (j : Nat) (h : j < rs.length) : wgts (rs.take (j + 1)) = wgts (rs.take j) + wgt (rs.getD j raw0) := by
  have e : rs[j]? = some (rs.getD j raw0) := by
    rw [List.getD_eq_getElem?_getD, List.getElem?_eq_getElem h]; rfl
  rw [List.take_add_one, e]
  simp [wgts]
theorem wgts_le (rs : List Raw) : wgts rs ≤ rs.length * 2099152 := by
  induction rs with
  | nil => exact Nat.zero_le _
  | cons r rs ih =>
    have h1 : wgts (r :: rs) = wgt r + wgts rs := by simp [wgts]
    have h2 : wgt r ≤ 2099152 := by unfold wgt; omega
    rw [h1, List.length_cons]
    omega
theorem wgt_le (rs : List Raw) (i : Nat) (h : i < rs.length) : wgt (rs.getD i raw0) ≤ wgts rs := by
  induction rs generalizing i with
  | nil => cases h
  | cons r rs ih =>
    have h1 : wgts (r :: rs) = wgt r + wgts rs := by simp [wgts]
    rw [h1]
    cases i with
    | zero => exact Nat.le_add_right _ _
    | succ i =>
      have := ih i (by simpa using h)
      rw [List.getD_cons_succ]
      omega
theorem long_not {rs : List Raw} (h : isLong rs = false) (i : Nat) (hi : i < (rs.take 150).length) : ((rs.take 150).getD i raw0).dl ≤ 524288 := by
  have h1 : ¬ 524288 < wgts (rs.take 150) := of_decide_eq_false h
  have h2 := wgt_le (rs.take 150) i hi
  unfold wgt at h2
  omega
set_option maxRecDepth 100000 in
set_option maxHeartbeats 1000000 in
theorem long_ok {a : Option Addr} {len cap : Nat} {rs : List Raw} {w : World} (h : ActsAt w a len cap rs) : Calls Try.prog 4 #[.slice a len cap] w fun e w' => e = .returned (.bool (isLong rs)) ∧ Below w.heap.size w w' := by
  have hA := h.cut (cutN len) (by unfold cutN; omega)
  have ht : rs.take (cutN len) = rs.take 150 := by
    unfold cutN
    by_cases q : len ≤ 150
    · rw [Nat.min_eq_left q, h.ln, List.take_length, List.take_of_length_le (by rw [← h.ln]; exact q)]
    · rw [Nat.min_eq_right (by omega)]
  rw [ht] at hA
  have HR : Hid (isLong rs = decide (524288 < wgts (rs.take 150))) := rfl
  have hs := short_ok a len cap w h.lc h.cm
  have hn150 : cutN len ≤ 150 := Nat.min_le_right _ _
  have HA : Hid (ActsAt w a (cutN len) cap (rs.take 150)) := hA
  rw [HR.out]
  clear h hA ht
  generalize rs.take 150 = ts at *
  generalize cutN len = n at *
  go_enter Try.func4, Try.ntmps4
  go_wp2_with (first | (go_at_call 8; refine hs.mono ?_; rintro e w' ⟨rfl, rfl⟩))
  go_loopw [3, 9] (fun v i wr => ∃ j : Nat, j ≤ n ∧ i = .int .i64 j ∧ v = .int .i64 (wgts (ts.take j) : Nat) ∧ Below w.heap.size w wr) (fun _ i _ => n - (intOf i).toNat)
  case atStart => exact ⟨0, Nat.zero_le _, rfl, rfl, Below.refl _ _⟩
  case round =>
    obtain ⟨j, hj, rfl, rfl, hB⟩ := hrel
    have HB : Hid (Below w.heap.size w wr) := hB
    have hln := HA.out.ln
    have hwl : wgts (ts.take j) ≤ 150 * 2099152 := Nat.le_trans (wgts_le _) (Nat.mul_le_mul_right _ (by rw [List.length_take]; omega))
    by_cases hlt : j < n
    · obtain ⟨b, off, rfl, hbl, hc⟩ := HA.out.mem (by omega)
      have hx := wgts_at ts j (by omega)
      have hR := HA.out.ok j hlt
      have hcc := fun i hi => (hB.cell (p := ⟨b, off + j * 6 + i, none⟩) hbl).trans (hc j hlt i hi)
      clear hc hB
      obtain ⟨r, hr⟩ : ∃ r, r = ts.getD j raw0 := ⟨_, rfl⟩
      rw [← hr] at hx hR hcc
      have c0 : wr.cell? ⟨b, off + j * 6, none⟩ = some (.int .u8 r.act.kind) := hcc 0 (by decide)
      have c1 : wr.cell? ⟨b, off + j * 6 + 1, none⟩ = some (.string (str r.act.nA)) := hcc 1 (by decide)
      have c2 : wr.cell? ⟨b, off + j * 6 + 2, none⟩ = some (.string (str r.act.nB)) := hcc 2 (by decide)
      have c3 : wr.cell? ⟨b, off + j * 6 + 3, none⟩ = some (.slice r.da r.dl r.dc) := hcc 3 (by decide)
      have c4 : wr.cell? ⟨b, off + j * 6 + 4, none⟩ = some (.int .i64 r.act.num) := hcc 4 (by decide)
      have c5 : wr.cell? ⟨b, off + j * 6 + 5, none⟩ = some (.slice r.ka r.kl r.kc) := hcc 5 (by decide)
      have hsA : (str r.act.nA).size = r.act.nA.length := str_size _
      have hsB : (str r.act.nB).size = r.act.nB.length := str_size _
      have hla := hR.nA
      have hlb := hR.nB
      have hdm : r.dl ≤ maxLen := Nat.le_trans hR.dlc hR.dcm
      unfold wgt at hx
      clear hcc hr hR
      generalize str r.act.nA = A at *
      generalize str r.act.nB = B at *
      generalize r.act.nA.length = la at *
      generalize r.act.nB.length = lb at *
      generalize r.act.kind = k at *
      generalize r.act.num = z at *
      generalize r.da = da at *
      generalize r.dl = dl at *
      generalize r.dc = dc at *
      generalize r.ka = ka at *
      generalize r.kl = kl at *
      generalize r.kc = kc at *
      go_wp2
      go_roundw
      case rel =>
        refine ⟨j + 1, by omega, by go_num, ?_, HB.out.alloc HB.out.size _⟩
        rw [hx]
        congr 1
        omega
      case measure => simp [intOf]; omega
    · obtain rfl : j = n := by omega
      rw [hln, List.take_length]
      have hw : wgts ts ≤ 150 * 2099152 := by rwa [hln, List.take_length] at hwl
      have hd : decide ((524288 : Int) < (wgts ts : Int)) = decide (524288 < wgts ts) := by congr 1; simp; omega
      go_wp2
      go_ret
      exact ⟨by first | rfl | rw [hd], HB.out⟩
end Go.Proofs.Ytedpiikdlpehjaa.Dsk
