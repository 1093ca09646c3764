/- The reference's Is, by its contract. -/
import Derived.Test.YtlocmdiljfkhkaaDoorPlainIs
import Derived.Test.YtlocmdiljfkhkaaDoorPlainRef
import Derived.Test.YtlocmdiljfkhkaaDoorUtfRef3
namespace Go.Proofs.YtlocmdiljfkhkaaDoor.Pln
open Utf Rws
open Go.RowKit
set_option linter.unusedSimpArgs false
set_option linter.unusedVariables false
set_option maxRecDepth 100000

theorem b45 (b : UInt8) : ((b.toNat : Int) == 45) = (b == 45) := beq_toNat b 45
theorem b9 (b : UInt8) : ((b.toNat : Int) == 9) = (b == 9) := beq_toNat b 9
theorem b10 (b : UInt8) : ((b.toNat : Int) == 10) = (b == 10) := beq_toNat b 10
theorem b13 (b : UInt8) : ((b.toNat : Int) == 13) = (b == 13) := beq_toNat b 13

def okk (l : List UInt8) (f : Bool) (n : Nat) : Prop := ∀ j, j < n → c3 (l.getD j 0) = false ∧ en l f j = false
theorem okk_succ {l : List UInt8} {f : Bool} {n : Nat} (h : okk l f n) (h1 : c3 (l.getD n 0) = false) (h2 : en l f n = false) : okk l f (n + 1) := by
  intro j hj
  by_cases e : j = n
  · subst e; exact ⟨h1, h2⟩
  · exact h j (by omega)
theorem anyB_getD (l : List UInt8) : anyB l = true ↔ ∃ j, j < l.length ∧ c3 (l.getD j 0) = true := by
  unfold anyB
  rw [List.any_eq_true]
  constructor
  · rintro ⟨x, hx, hf⟩
    obtain ⟨j, hj, rfl⟩ := List.getElem_of_mem hx
    exact ⟨j, hj, by rw [List.getD_eq_getElem?_getD, List.getElem?_eq_getElem hj]; exact hf⟩
  · rintro ⟨j, hj, hf⟩
    rw [List.getD_eq_getElem?_getD, List.getElem?_eq_getElem hj] at hf
    exact ⟨l[j], List.getElem_mem hj, hf⟩
theorem okk_all {l : List UInt8} {f : Bool} (h : okk l f l.length) : (!anyB l && (fin l f == l.length)) = true := by
  rw [Bool.and_eq_true]
  refine ⟨?_, ?_⟩
  · cases e : anyB l
    · rfl
    · obtain ⟨j, hj, hc⟩ := (anyB_getD l).1 e
      rw [(h j hj).1] at hc; cases hc
  · rw [fin_len]; exact fun j hj => (h j hj).2
theorem okk_hit {l : List UInt8} {f : Bool} {n : Nat} (hn : n < l.length) (h : (c3 (l.getD n 0) || en l f n) = true) : (!anyB l && (fin l f == l.length)) = false := by
  rw [Bool.eq_false_iff]
  intro h2
  rw [Bool.and_eq_true, fin_len] at h2
  rw [Bool.or_eq_true] at h
  rcases h with h | h
  · rw [(anyB_getD l).2 ⟨n, hn, h⟩] at h2; cases h2.1
  · rw [h2.2 n hn] at h; cases h

theorem isP_no1 {l : List UInt8} {f : Bool} (h : pri l = false) : isP l f = false := by unfold isP; rw [h]; rfl
theorem isP_no2 {l : List UInt8} {f : Bool} (h : bg l = false) : isP l f = false := by unfold isP; rw [h]; simp
theorem isP_no3 {l : List UInt8} {f : Bool} (h : is32 (l.getD (l.length - 1) 0) = true) : isP l f = false := by
  unfold isP
  rw [show (l.getD (l.length - 1) 0 == 32) = is32 (l.getD (l.length - 1) 0) from rfl, h]; simp
theorem isP_no4 {l : List UInt8} {f : Bool} {n : Nat} (hn : n < l.length) (h : en l f n = true) : isP l f = false := by
  rw [Bool.eq_false_iff]
  intro h2
  have := (fin_len l f).1 (by rw [isP_fin h2]; simp) n hn
  rw [h] at this; cases this
theorem isP_pass {l : List UInt8} {f : Bool} (h1 : chk l = none) (h2 : bg l = true) (h3 : is32 (l.getD (l.length - 1) 0) = false) : isP l f = (!anyB l && (fin l f == l.length)) := by
  unfold isP pri
  rw [h1, h2, show (l.getD (l.length - 1) 0 == 32) = is32 (l.getD (l.length - 1) 0) from rfl, h3, anyB_has]
  simp
theorem head2 {l : List UInt8} (h0 : l ≠ []) (h1 : l ≠ [45]) (hh : l.getD 0 0 = 45) : 2 ≤ l.length := by
  match l, h0, h1, hh with
  | [], h0, _, _ => exact absurd rfl h0
  | [b], _, h1, hh => have : b = 45 := hh
                      subst this; exact absurd rfl h1
  | _ :: _ :: r, _, _, _ => simp
theorem take2_ne {l : List UInt8} (h : l.getD 0 0 = 45 → l.getD 1 0 ≠ 32) : (l.take 2 == [45, 32]) = false := by
  rw [beq_eq_false_iff_ne]
  intro e
  match l, h, e with
  | [], _, e => simp at e
  | [b], _, e => simp at e
  | b :: c :: r, h, e =>
    simp only [List.take_succ_cons, List.take_zero, List.cons.injEq, and_true] at e
    obtain ⟨rfl, rfl⟩ := e
    exact h rfl rfl
theorem take2_eq' {l : List UInt8} (hl : 2 ≤ l.length) (h0 : l.getD 0 0 = 45) (h1 : l.getD 1 0 = 32) : (l.take 2 == [45, 32]) = true := by
  match l, hl, h0, h1 with
  | b :: c :: r, _, h0, h1 =>
    have e0 : b = 45 := h0
    have e1 : c = 32 := h1
    subst e0 e1; rfl

set_option maxHeartbeats 4000000 in
theorem ris_any (l : List UInt8) (f : Bool) (w : World) (hs : l.length ≤ 140737488351232) : Calls Tryd.prog 11 #[.string (mk l), .bool f] w fun e w' => e = .returned (.bool (isP l f)) ∧ Below w.heap.size w w' := by
  have hs' : (mk l).size ≤ maxLen := by rw [mk_size]; unfold maxLen; omega
  have hK := rcheck_any (mk l) w hs'
  rw [mk_data] at hK
  have hsl : l.length ≤ 562949953421312 := by omega
  have q1 := eq_l l []
  have q2 := eq_l l [45]
  have q3 := eq_l l [45, 45, 45]
  cases hc : chk l with
  | some p =>
    have HE : Hid (isP l f = false) := isP_no1 (by unfold pri; rw [hc]; rfl)
    rw [hc] at hK
    have HK : Hid (Calls Tryd.prog 25 #[.string (mk l)] w fun e w' => e = .returned (.agg #[.int .i64 8, .int .i64 p]) ∧ Below w.heap.size w w') := hK
    clear hK hc q1 q2 q3
    go_enter Tryd.func11, Tryd.ntmps11
    go_wp2_with (first | (go_at_call 25; refine HK.out.mono ?_; rintro e w1 ⟨rfl, hb1⟩))
    go_ret
    rw [HE.out]
    exact ⟨rfl, hb1.alloc hb1.size _⟩
  | none =>
    rw [hc] at hK
    have HK : Hid (Calls Tryd.prog 25 #[.string (mk l)] w fun e w' => e = .returned (.agg #[.int .i64 0, .int .i64 0]) ∧ Below w.heap.size w w') := hK
    clear hK
    cases c1 : (l == [])
    · have h0 : l ≠ [] := by simpa using c1
      rw [c1] at q1
      cases c2 : (l == [45])
      · have h1 : l ≠ [45] := by simpa using c2
        rw [c2] at q2
        cases c3' : (l == [45, 45, 45])
        · rw [c3'] at q3
          have hl : 0 < l.length := List.length_pos_iff.2 h0
          obtain ⟨m, hm⟩ : ∃ m, l.length = m + 1 := ⟨l.length - 1, by omega⟩
          have HL : Hid (l.length = m + 1) := hm
          have hsz : (mk l).size = m + 1 := by rw [mk_size]; exact hm
          have hmb : m + 1 ≤ 140737488351232 := by omega
          have hg0 : ∀ h, (mk l)[0]'h = l.getD 0 0 := fun h => mk_getD l 0 h
          have hgm : ∀ h, (mk l)[m]'h = l.getD m 0 := fun h => mk_getD l m h
          have z0 := b32 (l.getD 0 0)
          have zm := b32 (l.getD m 0)
          have y0 := b45 (l.getD 0 0)
          have HM0 := fun w => rhas_mrk (l.getD 0 0) w
          have hbg : bg l = (!(is32 (l.getD 0 0)) && !(mrk (l.getD 0 0)) && !(l.take 2 == [45, 32])) := by unfold bg; rw [c1, c2, c3']; rfl
          have hn3 : is32 (l.getD m 0) = true → isP l f = false := fun h => isP_no3 (by rw [hm, show m + 1 - 1 = m by omega]; exact h)
          have hps : bg l = true → is32 (l.getD m 0) = false → isP l f = (!anyB l && (fin l f == l.length)) := fun h2 h3 => isP_pass hc h2 (by rw [hm, show m + 1 - 1 = m by omega]; exact h3)
          have hh2 := head2 h0 h1
          clear c1 c2 c3' h0 h1
          cases i0 : is32 (l.getD 0 0)
          · rw [i0] at z0 hbg
            cases im : is32 (l.getD m 0)
            · rw [im] at zm hps
              cases im0 : mrk (l.getD 0 0)
              · rw [im0] at HM0 hbg
                cases i45 : (l.getD 0 0 == 45)
                · -- no dash
                  have HQ : Hid (isP l f = (!anyB l && (fin l f == l.length))) := hps (by rw [hbg, take2_ne (fun e => by rw [e] at i45; exact absurd i45 (by decide))]; rfl) rfl
                  rw [i45] at y0
                  generalize l.getD 0 0 = b0 at hg0 z0 y0 HM0
                  generalize l.getD m 0 = bm at hgm zm
                  have HM : Hid (∀ w, Calls Tryd.prog 21 #[.string ⟨#[63, 58, 44, 91, 93, 123, 125, 35, 38, 42, 33, 124, 62, 39, 34, 37, 64, 96]⟩, .int .u8 (b0.toNat : Int)] w fun e w' => e = .returned (.bool false) ∧ w = w') := HM0
                  clear hbg hn3 hps hh2 hc hm HM0 i0 im im0 i45 hl hs
                  go_enter Tryd.func11, Tryd.ntmps11
                  go_wp2_with (first | (go_at_call 25; refine HK.out.mono ?_; rintro e w1 ⟨rfl, hb1⟩))
                  refine (HM.out _).mono ?_
                  rintro e w2 ⟨rfl, rfl⟩
                  go_wp2_with fail
                  go_loop [6] (fun i => ∃ n : Nat, n ≤ m + 1 ∧ i = .int .i64 n ∧ okk l f n) (fun i => m + 1 - (intOf i).toNat)
                  case atStart => exact ⟨0, Nat.zero_le _, rfl, fun j hj => absurd hj (by omega)⟩
                  case round =>
                    obtain ⟨n, hn1, rfl, ht⟩ := hrel
                    have HT : Hid (okk l f n) := ht
                    clear ht
                    by_cases hlt : n < m + 1
                    · have hltl : n < l.length := by rw [HL.out]; exact hlt
                      have hg : ∀ h, (mk l)[n]'h = l.getD n 0 := fun h => mk_getD l n h
                      have hlt' : n < (mk l).size := by omega
                      have HR : Hid (∀ w, Calls Tryd.prog 26 #[.string (mk l), .int .i64 n, .bool f] w fun e w' => e = .returned (.bool (en l f n)) ∧ w = w') := fun w => rends_any l f n w hsl hltl
                      have HH : Hid ((c3 (l.getD n 0) || en l f n) = true → isP l f = false) := fun h => by rw [HQ.out]; exact okk_hit hltl h
                      have HS : Hid (c3 (l.getD n 0) = false → en l f n = false → okk l f (n + 1)) := okk_succ HT.out
                      have e9 := b9 (l.getD n 0)
                      have e10 := b10 (l.getD n 0)
                      have e13 := b13 (l.getD n 0)
                      clear HT hltl
                      generalize l.getD n 0 = b at hg HH HS e9 e10 e13
                      generalize en l f n = V at HR HH HS
                      have H3 : Hid (c3 b = (b == 9 || b == 10 || b == 13)) := rfl
                      cases x9 : (b == 9)
                      · rw [x9] at e9 H3
                        cases x10 : (b == 10)
                        · rw [x10] at e10 H3
                          cases x13 : (b == 13)
                          · rw [x13] at e13 H3
                            cases V
                            · go_wp2_with (first | (go_at_call 26; refine (HR.out _).mono ?_; rintro e w5 ⟨rfl, rfl⟩))
                              go_round
                              case rel => exact ⟨n + 1, by omega, by go_num, HS.out H3.out (by first | rfl | trivial)⟩
                              case measure => simp [intOf]; omega
                            · go_wp2_with (first | (go_at_call 26; refine (HR.out _).mono ?_; rintro e w5 ⟨rfl, rfl⟩))
                              go_ret
                              rw [HH.out (by rw [H3.out]; rfl)]
                              exact ⟨rfl, hb1.alloc hb1.size _⟩
                          · rw [x13] at e13 H3
                            go_wp2
                            go_ret
                            rw [HH.out (by rw [H3.out]; rfl)]
                            exact ⟨rfl, hb1.alloc hb1.size _⟩
                        · rw [x10] at e10 H3
                          go_wp2
                          go_ret
                          rw [HH.out (by rw [H3.out]; rfl)]
                          exact ⟨rfl, hb1.alloc hb1.size _⟩
                      · rw [x9] at e9 H3
                        go_wp2
                        go_ret
                        rw [HH.out (by rw [H3.out]; rfl)]
                        exact ⟨rfl, hb1.alloc hb1.size _⟩
                    · have HN : Hid (isP l f = true) := by
                        have hn2 : n = l.length := by rw [HL.out]; omega
                        have h := HT.out
                        rw [hn2] at h
                        rw [HQ.out]; exact okk_all h
                      go_wp2
                      go_ret
                      rw [HN.out]
                      exact ⟨rfl, hb1.alloc hb1.size _⟩
                · have e45 : l.getD 0 0 = 45 := by simpa using i45
                  have h2 := hh2 e45
                  have hg1 : ∀ h, (mk l)[1]'h = l.getD 1 0 := fun h => mk_getD l 1 h
                  have h1m : 1 < (mk l).size := by omega
                  have z1 := b32 (l.getD 1 0)
                  have HF0 := fun w => rhas_fl (l.getD 1 0) w
                  rw [i45] at y0
                  cases i1 : is32 (l.getD 1 0)
                  · rw [i1] at z1
                    have hb2 : bg l = true := by
                      rw [hbg, take2_ne (fun _ e => by rw [e] at i1; exact absurd i1 (by decide))]; rfl
                    have HQ : Hid (isP l f = (!anyB l && (fin l f == l.length))) := hps hb2 rfl
                    cases f
                    · generalize l.getD 0 0 = b0 at hg0 z0 y0 HM0
                      generalize l.getD m 0 = bm at hgm zm
                      generalize l.getD 1 0 = b1 at hg1 z1
                      have HM : Hid (∀ w, Calls Tryd.prog 21 #[.string ⟨#[63, 58, 44, 91, 93, 123, 125, 35, 38, 42, 33, 124, 62, 39, 34, 37, 64, 96]⟩, .int .u8 (b0.toNat : Int)] w fun e w' => e = .returned (.bool false) ∧ w = w') := HM0
                      clear hbg hn3 hps hh2 hc hm HM0 i0 im im0 i45 hl hs e45 hb2 i1 HF0
                      go_enter Tryd.func11, Tryd.ntmps11
                      go_wp2_with (first | (go_at_call 25; refine HK.out.mono ?_; rintro e w1 ⟨rfl, hb1⟩))
                      refine (HM.out _).mono ?_
                      rintro e w2 ⟨rfl, rfl⟩
                      go_wp2_with fail
                      go_loop [6] (fun i => ∃ n : Nat, n ≤ m + 1 ∧ i = .int .i64 n ∧ okk l false n) (fun i => m + 1 - (intOf i).toNat)
                      case atStart => exact ⟨0, Nat.zero_le _, rfl, fun j hj => absurd hj (by omega)⟩
                      case round =>
                        obtain ⟨n, hn1, rfl, ht⟩ := hrel
                        have HT : Hid (okk l false n) := ht
                        clear ht
                        by_cases hlt : n < m + 1
                        · have hltl : n < l.length := by rw [HL.out]; exact hlt
                          have hg : ∀ h, (mk l)[n]'h = l.getD n 0 := fun h => mk_getD l n h
                          have hlt' : n < (mk l).size := by omega
                          have HR : Hid (∀ w, Calls Tryd.prog 26 #[.string (mk l), .int .i64 n, .bool false] w fun e w' => e = .returned (.bool (en l false n)) ∧ w = w') := fun w => rends_any l false n w hsl hltl
                          have HH : Hid ((c3 (l.getD n 0) || en l false n) = true → isP l false = false) := fun h => by rw [HQ.out]; exact okk_hit hltl h
                          have HS : Hid (c3 (l.getD n 0) = false → en l false n = false → okk l false (n + 1)) := okk_succ HT.out
                          have e9 := b9 (l.getD n 0)
                          have e10 := b10 (l.getD n 0)
                          have e13 := b13 (l.getD n 0)
                          clear HT hltl
                          generalize l.getD n 0 = b at hg HH HS e9 e10 e13
                          generalize en l false n = V at HR HH HS
                          have H3 : Hid (c3 b = (b == 9 || b == 10 || b == 13)) := rfl
                          cases x9 : (b == 9)
                          · rw [x9] at e9 H3
                            cases x10 : (b == 10)
                            · rw [x10] at e10 H3
                              cases x13 : (b == 13)
                              · rw [x13] at e13 H3
                                cases V
                                · go_wp2_with (first | (go_at_call 26; refine (HR.out _).mono ?_; rintro e w5 ⟨rfl, rfl⟩))
                                  go_round
                                  case rel => exact ⟨n + 1, by omega, by go_num, HS.out H3.out (by first | rfl | trivial)⟩
                                  case measure => simp [intOf]; omega
                                · go_wp2_with (first | (go_at_call 26; refine (HR.out _).mono ?_; rintro e w5 ⟨rfl, rfl⟩))
                                  go_ret
                                  rw [HH.out (by rw [H3.out]; rfl)]
                                  exact ⟨rfl, hb1.alloc hb1.size _⟩
                              · rw [x13] at e13 H3
                                go_wp2
                                go_ret
                                rw [HH.out (by rw [H3.out]; rfl)]
                                exact ⟨rfl, hb1.alloc hb1.size _⟩
                            · rw [x10] at e10 H3
                              go_wp2
                              go_ret
                              rw [HH.out (by rw [H3.out]; rfl)]
                              exact ⟨rfl, hb1.alloc hb1.size _⟩
                          · rw [x9] at e9 H3
                            go_wp2
                            go_ret
                            rw [HH.out (by rw [H3.out]; rfl)]
                            exact ⟨rfl, hb1.alloc hb1.size _⟩
                        · have HN : Hid (isP l false = true) := by
                            have hn2 : n = l.length := by rw [HL.out]; omega
                            have h := HT.out
                            rw [hn2] at h
                            rw [HQ.out]; exact okk_all h
                          go_wp2
                          go_ret
                          rw [HN.out]
                          exact ⟨rfl, hb1.alloc hb1.size _⟩
                    · cases ifl : fl (l.getD 1 0)
                      · rw [ifl] at HF0
                        generalize l.getD 0 0 = b0 at hg0 z0 y0 HM0
                        generalize l.getD m 0 = bm at hgm zm
                        generalize l.getD 1 0 = b1 at hg1 z1 HF0
                        have HM : Hid (∀ w, Calls Tryd.prog 21 #[.string ⟨#[63, 58, 44, 91, 93, 123, 125, 35, 38, 42, 33, 124, 62, 39, 34, 37, 64, 96]⟩, .int .u8 (b0.toNat : Int)] w fun e w' => e = .returned (.bool false) ∧ w = w') := HM0
                        have HF : Hid (∀ w, Calls Tryd.prog 21 #[.string ⟨#[44, 91, 93, 123, 125]⟩, .int .u8 (b1.toNat : Int)] w fun e w' => e = .returned (.bool false) ∧ w = w') := HF0
                        clear hbg hn3 hps hh2 hc hm HM0 i0 im im0 i45 hl hs e45 hb2 i1 HF0 ifl
                        go_enter Tryd.func11, Tryd.ntmps11
                        go_wp2_with (first | (go_at_call 25; refine HK.out.mono ?_; rintro e w1 ⟨rfl, hb1⟩))
                        refine (HM.out _).mono ?_
                        rintro e w2 ⟨rfl, rfl⟩
                        go_wp2_with fail
                        refine (HF.out _).mono ?_
                        rintro e w3 ⟨rfl, rfl⟩
                        go_wp2_with fail
                        go_loop [6] (fun i => ∃ n : Nat, n ≤ m + 1 ∧ i = .int .i64 n ∧ okk l true n) (fun i => m + 1 - (intOf i).toNat)
                        case atStart => exact ⟨0, Nat.zero_le _, rfl, fun j hj => absurd hj (by omega)⟩
                        case round =>
                          obtain ⟨n, hn1, rfl, ht⟩ := hrel
                          have HT : Hid (okk l true n) := ht
                          clear ht
                          by_cases hlt : n < m + 1
                          · have hltl : n < l.length := by rw [HL.out]; exact hlt
                            have hg : ∀ h, (mk l)[n]'h = l.getD n 0 := fun h => mk_getD l n h
                            have hlt' : n < (mk l).size := by omega
                            have HR : Hid (∀ w, Calls Tryd.prog 26 #[.string (mk l), .int .i64 n, .bool true] w fun e w' => e = .returned (.bool (en l true n)) ∧ w = w') := fun w => rends_any l true n w hsl hltl
                            have HH : Hid ((c3 (l.getD n 0) || en l true n) = true → isP l true = false) := fun h => by rw [HQ.out]; exact okk_hit hltl h
                            have HS : Hid (c3 (l.getD n 0) = false → en l true n = false → okk l true (n + 1)) := okk_succ HT.out
                            have e9 := b9 (l.getD n 0)
                            have e10 := b10 (l.getD n 0)
                            have e13 := b13 (l.getD n 0)
                            clear HT hltl
                            generalize l.getD n 0 = b at hg HH HS e9 e10 e13
                            generalize en l true n = V at HR HH HS
                            have H3 : Hid (c3 b = (b == 9 || b == 10 || b == 13)) := rfl
                            cases x9 : (b == 9)
                            · rw [x9] at e9 H3
                              cases x10 : (b == 10)
                              · rw [x10] at e10 H3
                                cases x13 : (b == 13)
                                · rw [x13] at e13 H3
                                  cases V
                                  · go_wp2_with (first | (go_at_call 26; refine (HR.out _).mono ?_; rintro e w5 ⟨rfl, rfl⟩))
                                    go_round
                                    case rel => exact ⟨n + 1, by omega, by go_num, HS.out H3.out (by first | rfl | trivial)⟩
                                    case measure => simp [intOf]; omega
                                  · go_wp2_with (first | (go_at_call 26; refine (HR.out _).mono ?_; rintro e w5 ⟨rfl, rfl⟩))
                                    go_ret
                                    rw [HH.out (by rw [H3.out]; rfl)]
                                    exact ⟨rfl, hb1.alloc hb1.size _⟩
                                · rw [x13] at e13 H3
                                  go_wp2
                                  go_ret
                                  rw [HH.out (by rw [H3.out]; rfl)]
                                  exact ⟨rfl, hb1.alloc hb1.size _⟩
                              · rw [x10] at e10 H3
                                go_wp2
                                go_ret
                                rw [HH.out (by rw [H3.out]; rfl)]
                                exact ⟨rfl, hb1.alloc hb1.size _⟩
                            · rw [x9] at e9 H3
                              go_wp2
                              go_ret
                              rw [HH.out (by rw [H3.out]; rfl)]
                              exact ⟨rfl, hb1.alloc hb1.size _⟩
                          · have HN : Hid (isP l true = true) := by
                              have hn2 : n = l.length := by rw [HL.out]; omega
                              have h := HT.out
                              rw [hn2] at h
                              rw [HQ.out]; exact okk_all h
                            go_wp2
                            go_ret
                            rw [HN.out]
                            exact ⟨rfl, hb1.alloc hb1.size _⟩
                      · have HE : Hid (isP l true = false) := isP_no4 (n := 1) (by omega) (by rw [en_colon, ifl]; simp)
                        rw [ifl] at HF0
                        generalize l.getD 0 0 = b0 at hg0 z0 y0 HM0
                        generalize l.getD m 0 = bm at hgm zm
                        generalize l.getD 1 0 = b1 at hg1 z1 HF0
                        have HM : Hid (∀ w, Calls Tryd.prog 21 #[.string ⟨#[63, 58, 44, 91, 93, 123, 125, 35, 38, 42, 33, 124, 62, 39, 34, 37, 64, 96]⟩, .int .u8 (b0.toNat : Int)] w fun e w' => e = .returned (.bool false) ∧ w = w') := HM0
                        have HF : Hid (∀ w, Calls Tryd.prog 21 #[.string ⟨#[44, 91, 93, 123, 125]⟩, .int .u8 (b1.toNat : Int)] w fun e w' => e = .returned (.bool true) ∧ w = w') := HF0
                        clear hbg hn3 hps hh2 hc hm HM0 i0 im im0 i45 hl hs e45 hb2 i1 HF0 ifl HQ
                        go_enter Tryd.func11, Tryd.ntmps11
                        go_wp2_with (first | (go_at_call 25; refine HK.out.mono ?_; rintro e w1 ⟨rfl, hb1⟩))
                        refine (HM.out _).mono ?_
                        rintro e w2 ⟨rfl, rfl⟩
                        go_wp2_with fail
                        refine (HF.out _).mono ?_
                        rintro e w3 ⟨rfl, rfl⟩
                        go_wp2_with fail
                        go_ret
                        rw [HE.out]
                        exact ⟨rfl, hb1.alloc hb1.size _⟩
                  · have HE : Hid (isP l f = false) := isP_no2 (by rw [hbg, take2_eq' h2 e45 (by simpa [is32] using i1)]; simp)
                    rw [i1] at z1
                    generalize l.getD 0 0 = b0 at hg0 z0 y0 HM0
                    generalize l.getD m 0 = bm at hgm zm
                    generalize l.getD 1 0 = b1 at hg1 z1
                    have HM : Hid (∀ w, Calls Tryd.prog 21 #[.string ⟨#[63, 58, 44, 91, 93, 123, 125, 35, 38, 42, 33, 124, 62, 39, 34, 37, 64, 96]⟩, .int .u8 (b0.toNat : Int)] w fun e w' => e = .returned (.bool false) ∧ w = w') := HM0
                    clear hbg hn3 hps hh2 hc hm HM0 i0 im im0 i45 hl hs e45 i1 HF0
                    go_enter Tryd.func11, Tryd.ntmps11
                    go_wp2_with (first | (go_at_call 25; refine HK.out.mono ?_; rintro e w1 ⟨rfl, hb1⟩))
                    refine (HM.out _).mono ?_
                    rintro e w2 ⟨rfl, rfl⟩
                    go_wp2_with fail
                    go_ret
                    rw [HE.out]
                    exact ⟨rfl, hb1.alloc hb1.size _⟩
              · have HE : Hid (isP l f = false) := isP_no2 (by rw [hbg, im0]; rfl)
                rw [im0] at HM0
                generalize l.getD 0 0 = b0 at hg0 z0 y0 HM0
                generalize l.getD m 0 = bm at hgm zm
                have HM : Hid (∀ w, Calls Tryd.prog 21 #[.string ⟨#[63, 58, 44, 91, 93, 123, 125, 35, 38, 42, 33, 124, 62, 39, 34, 37, 64, 96]⟩, .int .u8 (b0.toNat : Int)] w fun e w' => e = .returned (.bool true) ∧ w = w') := HM0
                clear hbg hn3 hps hh2 hc hm HM0 i0 im im0 hl hs y0
                go_enter Tryd.func11, Tryd.ntmps11
                go_wp2_with (first | (go_at_call 25; refine HK.out.mono ?_; rintro e w1 ⟨rfl, hb1⟩))
                refine (HM.out _).mono ?_
                rintro e w2 ⟨rfl, rfl⟩
                go_wp2_with fail
                go_ret
                rw [HE.out]
                exact ⟨rfl, hb1.alloc hb1.size _⟩
            · have HE : Hid (isP l f = false) := hn3 im
              rw [im] at zm
              generalize l.getD 0 0 = b0 at hg0 z0 y0
              generalize l.getD m 0 = bm at hgm zm
              clear hbg hn3 hps hh2 hc hm HM0 i0 im hl hs y0
              go_enter Tryd.func11, Tryd.ntmps11
              go_wp2_with (first | (go_at_call 25; refine HK.out.mono ?_; rintro e w1 ⟨rfl, hb1⟩))
              go_ret
              rw [HE.out]
              exact ⟨rfl, hb1.alloc hb1.size _⟩
          · have HE : Hid (isP l f = false) := isP_no2 (by rw [hbg, i0]; rfl)
            rw [i0] at z0
            generalize l.getD 0 0 = b0 at hg0 z0 y0
            generalize l.getD m 0 = bm at hgm zm
            clear hbg hn3 hps hh2 hc hm HM0 i0 hl hs y0 zm hgm
            go_enter Tryd.func11, Tryd.ntmps11
            go_wp2_with (first | (go_at_call 25; refine HK.out.mono ?_; rintro e w1 ⟨rfl, hb1⟩))
            go_ret
            rw [HE.out]
            exact ⟨rfl, hb1.alloc hb1.size _⟩
        · have HE : Hid (isP l f = false) := isP_no2 (by unfold bg; rw [c1, c2, c3']; rfl)
          rw [c3'] at q3
          clear c1 c2 c3' h0 h1 hc
          go_enter Tryd.func11, Tryd.ntmps11
          go_wp2_with (first | (go_at_call 25; refine HK.out.mono ?_; rintro e w1 ⟨rfl, hb1⟩))
          go_ret
          rw [HE.out]
          exact ⟨rfl, hb1.alloc hb1.size _⟩
      · have HE : Hid (isP l f = false) := isP_no2 (by unfold bg; rw [c1, c2]; rfl)
        rw [c2] at q2
        clear c1 c2 h0 hc q3
        go_enter Tryd.func11, Tryd.ntmps11
        go_wp2_with (first | (go_at_call 25; refine HK.out.mono ?_; rintro e w1 ⟨rfl, hb1⟩))
        go_ret
        rw [HE.out]
        exact ⟨rfl, hb1.alloc hb1.size _⟩
    · have HE : Hid (isP l f = false) := isP_no2 (by unfold bg; rw [c1]; rfl)
      rw [c1] at q1
      clear c1 hc q2 q3
      go_enter Tryd.func11, Tryd.ntmps11
      go_wp2_with (first | (go_at_call 25; refine HK.out.mono ?_; rintro e w1 ⟨rfl, hb1⟩))
      go_ret
      rw [HE.out]
      exact ⟨rfl, hb1.alloc hb1.size _⟩

end Go.Proofs.YtlocmdiljfkhkaaDoor.Pln
