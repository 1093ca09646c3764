/- Package graph's rightKids, by its contract. -/
import Derived.Test.YtkggdjghjdakoaaGreatDoorGraphMem
namespace Go.Proofs.YtkggdjghjdakoaaGreatDoor.Grp
open Utf Rws Pln Flw
open Go.RowKit
set_option linter.unusedSimpArgs false
set_option linter.unusedVariables false
set_option maxRecDepth 100000
set_option maxHeartbeats 4000000

/-- may the Kids be, of these places and kinds? -/
def kdOk (ns : List Nd) (k : Int) : Nat → List Int → Bool
  | _, [] => true
  | i, a :: t => isP ns.length a && (!kyP k i || sca (ns.getD a.toNat nd0).kind) && kdOk ns k (i + 1) t
def rKd (ns : List Nd) (k : Int) (l : List Int) : Bool := !(sca k && decide (0 < l.length)) && !(decide (k = 6) && decide (l.length % 2 ≠ 0)) && kdOk ns k 0 l
theorem kdOk_at (ns : List Nd) (k : Int) (j : Nat) (l : List Int) (h : j < l.length) : kdOk ns k j (l.drop j) = (isP ns.length (l.getD j 0) && (!kyP k j || sca (ns.getD (l.getD j 0).toNat nd0).kind) && kdOk ns k (j + 1) (l.drop (j + 1))) := by
  rw [List.drop_eq_getElem_cons h, List.getD_eq_getElem?_getD, List.getElem?_eq_getElem h]
  rfl
/-- the boxes of a graph and of a node -/
structure S2 (w0 w : World) (K0 K1 : Nat) (g0 g1 n0 n1 n2 : Value) : Prop where
  g : Bx w K0 #[g0, g1] 24
  n : Bx w K1 #[n0, n1, n2] 38
  bl : Below w0.heap.size w0 w
theorem S2.later {w0 w w1 : World} {K0 K1 : Nat} {g0 g1 n0 n1 n2 : Value} (h : S2 w0 w K0 K1 g0 g1 n0 n1 n2) (hb : Below w.heap.size w w1) : S2 w0 w1 K0 K1 g0 g1 n0 n1 n2 := ⟨h.g.later hb, h.n.later hb, h.bl.trans (hb.mono h.bl.size)⟩
theorem S2.c {w0 w : World} {K0 K1 : Nat} {g0 g1 n0 n1 n2 : Value} (h : S2 w0 w K0 K1 g0 g1 n0 n1 n2) : w.cell? ⟨K0, 0, none⟩ = some g0 ∧ w.cell? ⟨K0, 1, none⟩ = some g1 ∧ w.cell? ⟨K1, 0, none⟩ = some n0 ∧ w.cell? ⟨K1, 1, none⟩ = some n1 ∧ w.cell? ⟨K1, 2, none⟩ = some n2 := ⟨h.g.c2.1, h.g.c2.2, h.n.c3.1, h.n.c3.2.1, h.n.c3.2.2⟩
theorem rightKids_any {w : World} {ad kad : Option Addr} {len cap klen kcap : Nat} {r k : Int} {x : Ln} {ns : List Nd} {l : List Int} (hlen : len ≤ 9223372036854775807) (hkl : klen ≤ 9223372036854775807) (hN : NAt w ad len ns) (hI : IAt w kad klen l) :
    Calls Tryz.prog 19 #[gv ad len cap r, nv k x kad klen kcap] w fun e w' => e = .returned (.bool (rKd ns k l)) ∧ Below w.heap.size w w' := by
  obtain ⟨q, HQ⟩ : ∃ q, Hid (q = rKd ns k l) := ⟨_, rfl⟩
  rw [← HQ.out]
  have HN : Hid (NAt w ad len ns) := hN
  have HI : Hid (IAt w kad klen l) := hI
  clear hN hI
  have h0 : S2 w ((w.alloc (.cells #[.slice ad len cap, .int .i64 r] 24)).alloc (.cells #[.int .i64 k, .string (mk x), .slice kad klen kcap] 38)) w.heap.size (w.heap.size + 1) (.slice ad len cap) (.int .i64 r) (.int .i64 k) (.string (mk x)) (.slice kad klen kcap) := by
    have b1 := below_alloc w (.cells #[.slice ad len cap, .int .i64 r] 24)
    have s1 : (w.alloc (.cells #[.slice ad len cap, .int .i64 r] 24)).heap.size = w.heap.size + 1 := World.size_alloc _ _
    have b2 := below_alloc (w.alloc (.cells #[.slice ad len cap, .int .i64 r] 24)) (.cells #[.int .i64 k, .string (mk x), .slice kad klen kcap] 38)
    have n2 := Bx.new (w.alloc (.cells #[.slice ad len cap, .int .i64 r] 24)) #[.int .i64 k, .string (mk x), .slice kad klen kcap] 38
    rw [s1] at n2
    exact ⟨(Bx.new w _ _).later b2, n2, b1.trans (b2.mono b1.size)⟩
  go_enter Tryz.func19, Tryz.ntmps19
  go_wp2_with fail
  generalize ((w.alloc (.cells #[.slice ad len cap, .int .i64 r] 24)).alloc (.cells #[.int .i64 k, .string (mk x), .slice kad klen kcap] 38)) = W0 at h0 ⊢
  generalize w.heap.size + 1 = K1 at h0 ⊢
  generalize w.heap.size = K0 at h0 ⊢
  refine (isScalar_any).mono ?_
  rintro e w1 ⟨rfl, hb1⟩
  have h1 := h0.later hb1
  clear h0 hb1
  obtain ⟨c0, c1, c2, c3, c4⟩ := h1.c
  have HL : Hid (klen = l.length) := HI.out.1
  have HS : Hid (S2 w w1 K0 K1 (.slice ad len cap) (.int .i64 r) (.int .i64 k) (.string (mk x)) (.slice kad klen kcap)) := h1
  clear h1
  cases hs : sca k
  case' true =>
    have hk6 : (k == 6) = false := by
      unfold sca at hs
      simp only [Bool.and_eq_true, decide_eq_true_eq] at hs
      simp; omega
    by_cases hp : 0 < klen
    · have HQ2 : Hid (q = false) := by
        rw [HQ.out, rKd, hs, ← HL.out, decide_eq_true hp]; exact rfl
      go_wp2
      go_ret
      exact ⟨by rw [HQ2.out]; rfl, HS.out.bl⟩
    have HQ2 : Hid (q = kdOk ns k 0 l) := by
      have e6 : ¬ k = 6 := by simpa using hk6
      show _ = _
      rw [HQ.out, rKd, hs, ← HL.out, decide_eq_false hp, decide_eq_false e6]; rfl
    go_upto_region 3 with fail
    clear hp
  case' false =>
    by_cases h6 : k = 6
    case' neg =>
      have hk6 : (k == 6) = false := by simpa using h6
      have HQ2 : Hid (q = kdOk ns k 0 l) := by
        show _ = _
        rw [HQ.out, rKd, hs, decide_eq_false h6]; rfl
      go_upto_region 3 with fail
    case' pos =>
      have hk6 : (k == 6) = true := by rw [h6]; rfl
      have H6 : Hid (k = 6) := h6
      clear h6
      by_cases hm : klen % 2 = 0
      case' neg =>
        have HQ2 : Hid (q = false) := by
          show _ = _
          rw [HQ.out, rKd, hs, ← HL.out, decide_eq_true H6.out, decide_eq_true (show klen % 2 ≠ 0 from hm)]; rfl
        have hm' : (((klen : Int) % 2) != 0) = true := by simp; omega
        go_wp2
        go_ret
        exact ⟨by rw [HQ2.out]; rfl, HS.out.bl⟩
      case' pos =>
        have HQ2 : Hid (q = kdOk ns k 0 l) := by
          show _ = _
          rw [HQ.out, rKd, hs, ← HL.out, decide_eq_true H6.out, decide_eq_false (show ¬ klen % 2 ≠ 0 from fun h => h hm)]; rfl
        have hm' : (((klen : Int) % 2) != 0) = false := by simp; omega
        go_upto_region 3 with fail
  all_goals
    clear HQ hs hk6
    go_wp2_with fail
    clear c0 c1 c2 c3 c4
    go_loopw [30] (fun i wr => ∃ j : Nat, j ≤ klen ∧ i = .int .i64 j ∧ Hid (S2 w wr K0 K1 (.slice ad len cap) (.int .i64 r) (.int .i64 k) (.string (mk x)) (.slice kad klen kcap)) ∧ Hid (q = kdOk ns k j (l.drop j))) (fun i _ => klen - (intOf i).toNat)
    case atStart => exact ⟨0, Nat.zero_le _, rfl, HS, HQ2⟩
    case round =>
      obtain ⟨j, hj, rfl, HR, HJ⟩ := hrel
      clear HS HQ2
      by_cases hlt : j < klen
      · obtain ⟨b, off, rfl, hb, hc⟩ := HI.out.2 (by omega)
        have x0 := (HR.out.bl.cell (p := ⟨b, off + j, none⟩) hb).trans (hc j hlt).2
        have HJ2 : Hid (q = (isP ns.length (l.getD j 0) && (!kyP k j || sca (ns.getD (l.getD j 0).toNat nd0).kind) && kdOk ns k (j + 1) (l.drop (j + 1)))) := HJ.out.trans (kdOk_at ns k j l (by have := HL.out; omega))
        have HA := (hc j hlt).1
        generalize l.getD j 0 = a at *
        clear HJ hc
        rw [← HN.out.1] at HJ2
        obtain ⟨c0, c1, c2, c3, c4⟩ := HR.out.c
        have HP : Hid (Calls Tryz.prog 17 #[gv ad len cap r, .int .i64 a] wr fun e w' => e = .returned (.bool (isP len a)) ∧ Hid (S2 w w' K0 K1 (.slice ad len cap) (.int .i64 r) (.int .i64 k) (.string (mk x)) (.slice (some ⟨b, off, none⟩) klen kcap)) ∧ w'.cell? ⟨K0, 0, none⟩ = some (.slice ad len cap) ∧ w'.cell? ⟨K0, 1, none⟩ = some (.int .i64 r) ∧ w'.cell? ⟨K1, 0, none⟩ = some (.int .i64 k) ∧ w'.cell? ⟨K1, 1, none⟩ = some (.string (mk x)) ∧ w'.cell? ⟨K1, 2, none⟩ = some (.slice (some ⟨b, off, none⟩) klen kcap)) :=
          (isPlace_any hlen).mono (fun e w' h => ⟨h.1, HR.out.later h.2, (HR.out.later h.2).c⟩)
        have HK := fun w' : World => kyPlace_any (w := w') (k := k) j (by omega)
        cases hp : isP len a
        · rw [hp] at HP HJ2
          go_wp2_with (go_at_call 17; refine HP.out.mono ?_; rintro e w2 ⟨rfl, HS2, d0, d1, d2, d3, d4⟩)
          go_ret
          exact ⟨by rw [HJ2.out]; rfl, HS2.out.bl⟩
        rw [hp] at HP HJ2
        obtain ⟨m, rfl⟩ : ∃ m : Nat, a = (m : Int) := by
          unfold isP at hp
          simp only [Bool.and_eq_true, decide_eq_true_eq] at hp
          exact ⟨a.toNat, by omega⟩
        have hm : m < len := by
          unfold isP at hp
          simp only [Bool.and_eq_true, decide_eq_true_eq] at hp
          omega
        clear hp
        cases hk : kyP k j
        · have HK0 : Hid (∀ w', Calls Tryz.prog 34 #[.int .i64 k, .int .i64 (j : Int)] w' fun e w'' => e = .returned (.bool false) ∧ w' = w'') := fun w' => by have := HK w'; rw [hk] at this; exact this
          clear HK
          rw [hk] at HJ2
          go_wp2_with (first | (go_at_call 17; refine HP.out.mono ?_; rintro e w2 ⟨rfl, HS2, d0, d1, d2, d3, d4⟩) | (go_at_call 34; refine (HK0.out _).mono ?_; rintro e w3 ⟨rfl, rfl⟩))
          go_roundw
          case rel => exact ⟨j + 1, by omega, by go_num, HS2, by rw [HJ2.out]; exact rfl⟩
          case measure => simp [intOf]; omega
        · have HK0 : Hid (∀ w', Calls Tryz.prog 34 #[.int .i64 k, .int .i64 (j : Int)] w' fun e w'' => e = .returned (.bool true) ∧ w' = w'') := fun w' => by have := HK w'; rw [hk] at this; exact this
          clear HK
          obtain ⟨b', off', rfl, hb', hc'⟩ := HN.out.2 (by omega)
          obtain ⟨pad, plen, pcap, _, _, _, _, _, y0, y1, y2⟩ := hc' m hm
          rw [hk, Int.toNat_natCast] at HJ2
          generalize ns.getD m nd0 = nd at *
          have HY : Hid (∀ w', Below w.heap.size w w' → w'.cell? ⟨b', off' + m * 3, none⟩ = some (.int .i64 nd.kind) ∧ w'.cell? ⟨b', off' + m * 3 + 1, none⟩ = some (.string (mk nd.text)) ∧ w'.cell? ⟨b', off' + m * 3 + 2, none⟩ = some (.slice pad plen pcap)) := fun w' hw =>
            ⟨(hw.cell (p := ⟨b', off' + m * 3, none⟩) hb').trans y0, (hw.cell (p := ⟨b', off' + m * 3 + 1, none⟩) hb').trans y1, (hw.cell (p := ⟨b', off' + m * 3 + 2, none⟩) hb').trans y2⟩
          clear hc' y0 y1 y2
          have HC : Hid (∀ w', Hid (S2 w w' K0 K1 (.slice (some ⟨b', off', none⟩) len cap) (.int .i64 r) (.int .i64 k) (.string (mk x)) (.slice (some ⟨b, off, none⟩) klen kcap)) → Calls Tryz.prog 33 #[nv nd.kind nd.text pad plen pcap] w' fun e w'' => e = .returned (.bool (sca nd.kind)) ∧ Hid (S2 w w'' K0 K1 (.slice (some ⟨b', off', none⟩) len cap) (.int .i64 r) (.int .i64 k) (.string (mk x)) (.slice (some ⟨b, off, none⟩) klen kcap))) :=
            fun w' h => (isScalar_any).mono (fun e w'' q => ⟨q.1, h.out.later q.2⟩)
          generalize nd.kind = nk at *
          cases hsk : sca nk
          · rw [hsk] at HC HJ2
            go_wp2_with (first | (go_at_call 17; refine HP.out.mono ?_; rintro e w2 ⟨rfl, HS2, d0, d1, d2, d3, d4⟩; obtain ⟨z0, z1, z2⟩ := HY.out _ HS2.out.bl) | (go_at_call 34; refine (HK0.out _).mono ?_; rintro e w3 ⟨rfl, rfl⟩) | (go_at_call 33; refine (HC.out _ HS2).mono ?_; rintro e w4 ⟨rfl, HS4⟩))
            go_ret
            exact ⟨by rw [HJ2.out]; rfl, HS4.out.bl⟩
          · rw [hsk] at HC HJ2
            go_wp2_with (first | (go_at_call 17; refine HP.out.mono ?_; rintro e w2 ⟨rfl, HS2, d0, d1, d2, d3, d4⟩; obtain ⟨z0, z1, z2⟩ := HY.out _ HS2.out.bl) | (go_at_call 34; refine (HK0.out _).mono ?_; rintro e w3 ⟨rfl, rfl⟩) | (go_at_call 33; refine (HC.out _ HS2).mono ?_; rintro e w4 ⟨rfl, HS4⟩))
            go_roundw
            case rel => exact ⟨j + 1, by omega, by go_num, HS4, by rw [HJ2.out]; exact rfl⟩
            case measure => simp [intOf]; omega
      · have HE : Hid (q = true) := by
          have e : l.drop j = [] := List.drop_of_length_le (by have := HL.out; omega)
          rw [HJ.out, e]
          exact rfl
        go_wp2
        go_ret
        exact ⟨by rw [HE.out]; rfl, HR.out.bl⟩
end Go.Proofs.YtkggdjghjdakoaaGreatDoor.Grp
