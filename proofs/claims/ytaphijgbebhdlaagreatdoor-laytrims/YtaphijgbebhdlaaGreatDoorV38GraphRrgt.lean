/- Several texts as one: GraphRrgt. -/
import Derived.Test.YtaphijgbebhdlaaGreatDoorV37GraphRnod2
import Derived.Test.YtaphijgbebhdlaaGreatDoorV32GraphKyV
section
/- The document's Right, of layer 12, by its contract. -/
namespace Go.Proofs.YtaphijgbebhdlaaGreatDoor.Grp
open Utf Rws Pln Flw
open Go.RowKit
set_option linter.unusedSimpArgs false
set_option linter.unusedVariables false
set_option maxRecDepth 100000
set_option maxHeartbeats 4000000

/-- not too large for the document's functions -/
def Sm2 (ns : List Nd) : Prop := ns.length ≤ 4096 → (∀ n ∈ ns, n.text.length ≤ 65536 ∧ n.kids.length ≤ 1000000) ∧ sumK ns ≤ 1000000000
/-- a key that is another Kid, or the Root -/
def badK (ns : List Nd) (r : Int) (x : Nat) : Prop := isKy ns (x : Int) = true ∧ (1 < timN (fun _ => 0) ns x ∨ (x : Int) = r)
theorem kNe_bad {ns : List Nd} {r : Nat} (hk : ∀ n ∈ ns, ∀ a ∈ n.kids, isP ns.length a = true) : kNe (timN (bump (fun _ => 0) r) ns) ns = true ↔ ∀ x, x < ns.length → ¬ badK ns (r : Int) x := by
  rw [kNe_iff]
  constructor
  · rintro h x hx ⟨h1, h2⟩
    obtain ⟨n, hn, ha⟩ := (isKy_iff _ _).1 h1
    have h3 := h n hn _ ha
    have h4 := kid_count hn (kys_mem _ _ _ _ ha)
    rw [Int.toNat_natCast] at h3 h4
    rw [timN_eq] at h3 h2
    rcases h2 with h2 | h2
    · omega
    · have : bump (fun _ => 0) r x = 1 := by unfold bump; rw [if_pos (by omega)]
      omega
  · intro h n hn a ha
    obtain ⟨m, rfl, hm⟩ := isP_nat (hk n hn a (kys_mem _ _ _ _ ha))
    have h1 := h m hm
    have h2 : isKy ns (m : Int) = true := (isKy_iff _ _).2 ⟨n, hn, ha⟩
    rw [Int.toNat_natCast, timN_eq]
    have h3 : ¬ 1 < timN (fun _ => 0) ns m := fun q => h1 ⟨h2, .inl q⟩
    have h4 : ¬ (m : Int) = (r : Int) := fun q => h1 ⟨h2, .inr q⟩
    rw [timN_eq] at h3
    have h5 : bump (fun _ => 0) r m = 0 := by unfold bump; rw [if_neg (by omega)]
    omega
theorem nod_all {ns : List Nd} (h : ∀ i, i < ns.length → nodB ns (ns.getD i nd0).kind (ns.getD i nd0).text (ns.getD i nd0).kids = true) : al1 ns ns = true ∧ al2 ns ns = true ∧ ∀ n ∈ ns, ∀ a ∈ n.kids, isP ns.length a = true := by
  have h' : ∀ n ∈ ns, nodB ns n.kind n.text n.kids = true := fun n hn => by
    obtain ⟨i, hi, rfl⟩ := List.getElem_of_mem hn
    have := h i hi
    rw [List.getD_eq_getElem?_getD, List.getElem?_eq_getElem hi] at this
    exact this
  have h2 : ∀ n ∈ ns, rAl n.kind n.text = true ∧ rKd ns n.kind n.kids = true ∧ dif ((kys n.kind 0 n.kids).map (kp ns)) = true := fun n hn => by
    have := h' n hn
    unfold nodB at this
    rw [Bool.and_eq_true, Bool.and_eq_true] at this
    exact ⟨this.1.1, this.1.2, this.2⟩
  exact ⟨(al1_iff ns ns).2 fun n hn => ⟨(h2 n hn).1, (h2 n hn).2.1⟩, (al2_iff ns ns).2 fun n hn => (h2 n hn).2.2, fun n hn a ha => rKd_all (h2 n hn).2.1 a ha⟩
theorem nod_no {ns : List Nd} {r : Int} {i : Nat} (hi : i < ns.length) (h : nodB ns (ns.getD i nd0).kind (ns.getD i nd0).text (ns.getD i nd0).kids = false) : rgG ⟨ns, r⟩ = false := by
  cases hq : rgG ⟨ns, r⟩
  · rfl
  · exfalso
    unfold rgG at hq
    simp only [Bool.and_eq_true] at hq
    have m := mem_getD hi
    have h1 := (al1_iff ns ns).1 hq.1.1.2 _ m
    have h2 := (al2_iff ns ns).1 hq.2 _ m
    unfold nodB at h
    rw [h1.1, h1.2, h2] at h
    cases h
theorem rright12_core {w : World} {ad : Option Addr} {len cap : Nat} {r : Int} {ns : List Nd} (hlen : len ≤ 9223372036854775807) (hN : NAt w ad len ns) (hS : Sm2 ns) :
    Calls Tryz.prog 34 #[gv ad len cap r] w fun e w' => e = .returned (.bool (rgG ⟨ns, r⟩)) ∧ Below w.heap.size w w' := by
  obtain ⟨q, HQ⟩ : ∃ q, Hid (q = rgG ⟨ns, r⟩) := ⟨_, rfl⟩
  rw [← HQ.out]
  have HN : Hid (NAt w ad len ns) := hN
  have HNL : Hid (len = ns.length) := hN.1
  clear hN
  have b0 := below_alloc w (.cells #[.slice ad len cap, .int .i64 r] 24)
  have n0 := Bx.new w #[.slice ad len cap, .int .i64 r] 24
  have hw : (len < 1 ∨ (¬ len < 1 ∧ 4096 < len) ∨ (¬ len < 1 ∧ ¬ 4096 < len ∧ r < 0) ∨ (¬ len < 1 ∧ ¬ 4096 < len ∧ ¬ r < 0 ∧ (len : Int) ≤ r)) ∨ (¬ len < 1 ∧ ¬ 4096 < len ∧ ¬ r < 0 ∧ ¬ (len : Int) ≤ r) := by omega
  rcases hw with hw | ⟨hw1, hw2, hw3, hw4⟩
  · have HQF : Hid (q = false) := by
      show _ = _
      rw [HQ.out]
      unfold rgG isP
      simp only
      have hl := HNL.out
      rcases hw with h | ⟨_, h⟩ | ⟨_, _, h⟩ | ⟨_, _, _, h⟩
      · by_cases h1 : 0 ≤ r
        · rw [decide_eq_false (show ¬ r < (ns.length : Int) by omega)]; simp
        · rw [decide_eq_false h1]; simp
      · rw [decide_eq_false (show ¬ ns.length ≤ 4096 by omega)]; simp
      · rw [decide_eq_false (show ¬ 0 ≤ r by omega)]; simp
      · rw [decide_eq_false (show ¬ r < (ns.length : Int) by omega)]; simp
    have HB : Hid (Below w.heap.size w _) := b0
    clear HQ b0
    go_enter Tryz.func34, Tryz.ntmps34
    go_upto_region 1 with fail
    obtain ⟨c0, c1⟩ := n0.c2
    generalize w.alloc (.cells #[.slice ad len cap, .int .i64 r] 24) = W0 at HB c0 c1 ⊢
    clear n0
    rcases hw with h | ⟨h0, h⟩ | ⟨h0, h1, h⟩ | ⟨h0, h1, h2, h⟩
    all_goals
      go_wp2
      go_ret
      exact ⟨by rw [HQF.out]; rfl, HB.out⟩
  · obtain ⟨m, rfl⟩ : ∃ m : Nat, r = (m : Int) := ⟨r.toNat, by omega⟩
    have hml : m < len := by omega
    obtain ⟨hS1, hS2⟩ := hS (by have := HNL.out; omega)
    have HS1 : Hid (∀ n ∈ ns, n.text.length ≤ 65536 ∧ n.kids.length ≤ 1000000) := hS1
    have HS2 : Hid (sumK ns ≤ 1000000000) := hS2
    have HQ2 : Hid ((∀ i, i < ns.length → nodB ns (ns.getD i nd0).kind (ns.getD i nd0).text (ns.getD i nd0).kids = true) → (q = true ↔ ∀ x, x < ns.length → ¬ badK ns (m : Int) x)) := fun h => by
      obtain ⟨a1, a2, a3⟩ := nod_all h
      rw [HQ.out, ← kNe_bad a3]
      unfold rgG isP
      simp only [Int.toNat_natCast]
      rw [a1, a2, decide_eq_true (show ns.length ≤ 4096 by have := HNL.out; omega), decide_eq_true (show (0 : Int) ≤ (m : Int) by omega), decide_eq_true (show (m : Int) < (ns.length : Int) by have := HNL.out; omega)]
      simp
    have H0 : Hid (RS w (w.alloc (.cells #[.slice ad len cap, .int .i64 (m : Int)] 24)) w.heap.size (.slice ad len cap) (.int .i64 (m : Int))) := ⟨n0, b0⟩
    clear n0 b0 hS1 hS2 hS
    go_enter Tryz.func34, Tryz.ntmps34
    go_upto_region 1 with fail
    generalize w.alloc (.cells #[.slice ad len cap, .int .i64 (m : Int)] 24) = W0 at H0 ⊢
    obtain ⟨K0, hK0⟩ : ∃ K0, K0 = w.heap.size := ⟨_, rfl⟩
    rw [← hK0] at H0 ⊢
    clear hK0
    obtain ⟨c0, c1⟩ := H0.out.g.c2
    go_wp2_with fail
    clear c0 c1
    go_loopw [3] (fun i wr => ∃ j : Nat, j ≤ len ∧ i = .int .i64 j ∧ Hid (RS w wr K0 (.slice ad len cap) (.int .i64 (m : Int))) ∧ Hid (∀ i, i < j → nodB ns (ns.getD i nd0).kind (ns.getD i nd0).text (ns.getD i nd0).kids = true)) (fun i _ => len - (intOf i).toNat)
    case atStart => exact ⟨0, Nat.zero_le _, rfl, H0, fun i h => absurd h (Nat.not_lt_zero _)⟩
    case round =>
      obtain ⟨j, hj, rfl, HR, HJ⟩ := hrel
      clear H0
      obtain ⟨c0, c1⟩ := HR.out.g.c2
      by_cases hlt : j < len
      · have hjl : j < ns.length := by have := HNL.out; omega
        have hN2 := HN.out.later HR.out.bl (Nat.le_refl _)
        obtain ⟨b, off, rfl, hb, hc⟩ := hN2.2 (by omega)
        obtain ⟨kad, klen, kcap, hk1, hk2, _, _, hI, y0, y1, y2⟩ := hc j hlt
        have hbd := HS1.out _ (mem_getD hjl)
        have HND : Hid (Calls Tryz.prog 53 #[gv (some ⟨b, off, none⟩) len cap (m : Int), nv (ns.getD j nd0).kind (ns.getD j nd0).text kad klen kcap] wr.drew fun e w' => e = .returned (.bool (nodB ns (ns.getD j nd0).kind (ns.getD j nd0).text (ns.getD j nd0).kids)) ∧ Hid (RS w w' K0 (.slice (some ⟨b, off, none⟩) len cap) (.int .i64 (m : Int)))) :=
          (rnode_any (w := wr.drew) (by omega) (by have := hI.1; omega) hbd.1 hN2 hI).mono (fun e w' q => ⟨q.1, HR.out.later ((Below.refl _ wr).drew.trans q.2)⟩)
        have HNB : Hid (∀ bq, nodB ns (ns.getD j nd0).kind (ns.getD j nd0).text (ns.getD j nd0).kids = bq → if bq = true then (∀ i, i < j + 1 → nodB ns (ns.getD i nd0).kind (ns.getD i nd0).text (ns.getD i nd0).kids = true) else q = false) := fun bq hbq => by
          cases bq
          · rw [if_neg (by decide), HQ.out]
            exact nod_no hjl hbq
          · rw [if_pos rfl]
            intro i hi
            by_cases e : i = j
            · rw [e]; exact hbq
            · exact HJ.out i (by omega)
        clear hc hI hN2 hk1 hk2 hbd
        generalize nodB ns (ns.getD j nd0).kind (ns.getD j nd0).text (ns.getD j nd0).kids = bq at HND HNB
        generalize (ns.getD j nd0).kind = nk at y0 HND
        generalize (ns.getD j nd0).text = nx at y1 HND
        have HNB2 := HNB.out bq rfl
        have HNB3 : Hid (if bq = true then _ else _) := HNB2
        clear HNB HNB2
        go_wp2
        go_region_with (go_at_call 53; refine HND.out.mono ?_; rintro e w2 ⟨rfl, H2⟩)
        all_goals
          cases bq
          · have HQF : Hid (q = false) := HNB3.out
            go_wp2
            go_ret
            exact ⟨by rw [HQF.out]; rfl, H2.out.bl⟩
          · go_wp2
            go_roundw
            case rel => exact ⟨j + 1, by omega, by go_num, H2, HNB3.out⟩
            case measure => (simp [intOf] <;> omega)
      · have HALL : Hid (∀ i, i < ns.length → nodB ns (ns.getD i nd0).kind (ns.getD i nd0).text (ns.getD i nd0).kids = true) := fun i hi => HJ.out i (by have := HNL.out; omega)
        have hK := (nod_all HALL.out).2.2
        have HUS := uses_any (w := wr) (cap := cap) (r := (m : Int)) (by omega) (HN.out.later HR.out.bl (Nat.le_refl _)) (by rw [HNL.out]; exact hK) HS2.out
        have HUS2 : Hid (Calls Tryz.prog 54 _ _ _) := HUS
        have HQ3 : Hid (q = true ↔ ∀ x, x < ns.length → ¬ badK ns (m : Int) x) := HQ2.out HALL.out
        clear HUS hK HALL HJ HQ2 HQ
        go_upto_region 9 with (go_at_call 54; refine HUS2.out.mono ?_; rintro e w4 ⟨KM, KY, Y, rfl, HM, HY, HYK, HB4⟩)
        have HR4 : Hid (RS w w4 K0 (.slice ad len cap) (.int .i64 (m : Int))) := HR.out.later HB4.out
        clear c0 c1 HR HUS2 HB4
        obtain ⟨c0, c1⟩ := HR4.out.g.c2
        go_wp2_with fail
        clear c0 c1
        go_loopw [6] (fun i wq => ∃ j2 : Nat, j2 ≤ len ∧ i = .int .i64 j2 ∧ Hid (Below w4.heap.size w4 wq) ∧ Hid (∀ x, x < j2 → ¬ badK ns (m : Int) x)) (fun i _ => len - (intOf i).toNat)
        case atStart => exact ⟨0, Nat.zero_le _, rfl, Below.refl _ _, fun x h => absurd h (Nat.not_lt_zero _)⟩
        case round =>
          obtain ⟨j2, hj2, rfl, HBW, HNB⟩ := hrel
          obtain ⟨c0, c1⟩ := (HR4.out.later HBW.out).g.c2
          by_cases hl2 : j2 < len
          · have q0 := ((HY.out.later HBW.out).cell j2).trans (bA_get Y hl2)
            have q1 := ((HM.out.later HBW.out).cell j2).trans (tA_get _ hl2)
            have HTB : Hid (timN (fun _ => 0) ns j2 ≤ 1000000000) := by
              have h1 := timN_le ns (fun _ => 0) j2
              have := HS2.out
              show _ ≤ _
              omega
            have HBD : Hid (badK ns (m : Int) j2 ↔ Y j2 = true ∧ (1 < timN (fun _ => 0) ns j2 ∨ (j2 : Int) = (m : Int))) := by
              unfold badK
              rw [HYK.out j2 hl2]
              exact Iff.rfl
            generalize timN (fun _ => 0) ns j2 = tj at q1 HTB HBD
            generalize Y j2 = yj at q0 HBD
            have hcs : (yj = false ∨ (yj = true ∧ ¬ 1 < tj ∧ ((j2 : Int) == (m : Int)) = false)) ∨ ((yj = true ∧ 1 < tj) ∨ (yj = true ∧ ¬ 1 < tj ∧ ((j2 : Int) == (m : Int)) = true)) := by
              cases yj
              · exact .inl (.inl rfl)
              · by_cases h1 : 1 < tj
                · exact .inr (.inl ⟨rfl, h1⟩)
                · cases h2 : ((j2 : Int) == (m : Int))
                  · exact .inl (.inr ⟨rfl, h1, rfl⟩)
                  · exact .inr (.inr ⟨rfl, h1, rfl⟩)
            have htb : tj ≤ 1000000000 := HTB.out
            have HBL : Hid (Below w.heap.size w wr) := (HR4.out.later HBW.out).bl
            rcases hcs with hcs | hcs
            · have HNB2 : Hid (∀ x, x < j2 + 1 → ¬ badK ns (m : Int) x) := fun x hx hbd => by
                by_cases e : x = j2
                · subst e
                  obtain ⟨h1, h2⟩ := HBD.out.1 hbd
                  rcases hcs with h | ⟨_, h3, h4⟩
                  · rw [h] at h1; cases h1
                  · rcases h2 with h2 | h2
                    · exact h3 h2
                    · rw [h2] at h4; simp at h4
                · exact HNB.out x (by omega) hbd
              clear HNB HBD HQ3
              rcases hcs with rfl | ⟨rfl, h3, h4⟩
              all_goals
                go_wp2
                go_roundw
                case rel => exact ⟨j2 + 1, by omega, by go_num, HBW, HNB2⟩
                case measure => (simp [intOf] <;> omega)
            · have HQF : Hid (q = false) := by
                show _ = _
                cases hq : q
                · rfl
                · exfalso
                  refine HQ3.out.1 hq j2 (by have := HNL.out; omega) (HBD.out.2 ?_)
                  rcases hcs with ⟨h1, h2⟩ | ⟨h1, _, h2⟩
                  · exact ⟨h1, .inl h2⟩
                  · exact ⟨h1, .inr (eq_of_beq h2)⟩
              clear HNB HBD HQ3
              rcases hcs with ⟨rfl, h2⟩ | ⟨rfl, h2, h3⟩
              all_goals
                go_wp2
                go_ret
                exact ⟨by rw [HQF.out]; rfl, HBL.out⟩
          · have HQT : Hid (q = true) := HQ3.out.2 fun x hx => HNB.out x (by have := HNL.out; omega)
            have HBL : Hid (Below w.heap.size w wr) := (HR4.out.later HBW.out).bl
            clear HQ3 HNB
            go_wp2
            go_ret
            exact ⟨by rw [HQT.out]; rfl, HBL.out⟩
end Go.Proofs.YtaphijgbebhdlaaGreatDoor.Grp
end
