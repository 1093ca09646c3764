/- Several texts as one: LaySz, LayShP, LayAn. -/
import Derived.Test.YtaphijgbebhdlaaGreatDoorV17LayGo
import Derived.Test.YtaphijgbebhdlaaGreatDoorV16GraphTop2I
import Derived.Test.YtaphijgbebhdlaaGreatDoorV15GraphCanZ
import Derived.Deep.RegionLaw
import Derived.Deep.RegionHeld3
import Derived.Test.YtaphijgbebhdlaaGreatDoorV18LaySt
section
/- Package lay's Size, by its contract. -/
namespace Go.Proofs.YtaphijgbebhdlaaGreatDoor.Grp
open Utf Rws Pln Flw
open Go.RowKit
set_option linter.unusedSimpArgs false
set_option linter.unusedVariables false
set_option maxRecDepth 100000
set_option maxHeartbeats 4000000

/-- how many trees there would be, of those in order -/
def szL (ns : List Nd) (O : List Nat) : Nat := 1 + (O.map fun x => (kd ns x).length).sum
/-- what Size answers -/
def SzRes (w : World) (q : Bool) (n : Nat) (e : Ending) (w' : World) : Prop := (if q = true then e = .returned (.tuple #[.int .i64 (n : Int), .int .i64 0]) else e = .returned (.tuple #[.int .i64 0, .int .i64 1])) ∧ Below w.heap.size w w'
theorem szL_snoc {ns : List Nd} {O : List Nat} {j : Nat} (h : j < O.length) : szL ns (O.take (j + 1)) = szL ns (O.take j) + (kd ns (O.getD j 0)).length := by
  unfold szL
  rw [List.take_succ_eq_append_getElem h, List.map_append, List.sum_append, List.getD_eq_getElem?_getD, List.getElem?_eq_getElem h]
  simp
  omega
theorem szL_bd {ns : List Nd} {O : List Nat} {B : Nat} (h : ∀ x ∈ O, (kd ns x).length ≤ B) : szL ns O ≤ 1 + O.length * B := by
  unfold szL
  induction O with
  | nil => simp
  | cons a O ih =>
    rw [List.map_cons, List.sum_cons, List.length_cons, Nat.add_mul, Nat.one_mul]
    have h1 := h a (by simp)
    have h2 := ih fun x hx => h x (by simp [hx])
    omega
theorem ores_noS {w W : World} {O : List Nat} {e : Ending} (h : ORes w false O e W) : e = .returned (.tuple #[.slice none 0 0, .int .i64 1]) ∧ Below w.heap.size w W := by
  obtain ⟨h1, h2⟩ := h
  rw [if_neg (by decide)] at h1
  exact ⟨h1, h2⟩
theorem ores_yesS {w W : World} {O : List Nat} {e : Ending} (h : ORes w true O e W) : ∃ ad cap, e = .returned (.tuple #[.slice ad O.length cap, .int .i64 0]) ∧ IAt W ad O.length (O.map fun a : Nat => (a : Int)) ∧ O.length ≤ 5000 ∧ Below w.heap.size w W := by
  obtain ⟨h1, h2⟩ := h
  rw [if_pos rfl] at h1
  obtain ⟨ad, cap, e1, e2, e3⟩ := h1
  exact ⟨ad, cap, e1, e2, e3, h2⟩
theorem size_core {w : World} {ad : Option Addr} {len cap : Nat} {r : Int} {ns : List Nd} (hlen : len ≤ 9223372036854775807) (hN : NAt w ad len ns) (hS : Sml ns) (hT : Tb w) :
    Calls Tryz.prog 9 #[gv ad len cap r] w (SzRes w (rgG ⟨ns, r⟩) (szL ns (odG ns r.toNat))) := by
  have HLn : Hid (len = ns.length) := hN.1
  have h0 : Hid (RS w (w.alloc (.cells #[.slice ad len cap, .int .i64 r] 24)) w.heap.size (.slice ad len cap) (.int .i64 r)) := ⟨Bx.new _ _ _, below_alloc _ _⟩
  have HO0 : ∀ W, RS w W w.heap.size (.slice ad len cap) (.int .i64 r) → Calls Tryz.prog 20 #[gv ad len cap r] W (ORes W (rgG ⟨ns, r⟩) (odG ns r.toNat)) := fun W h => order_core hlen (hN.later h.bl (Nat.le_refl _)) hS (hT.later h.bl)
  cases hq : rgG ⟨ns, r⟩
  case false =>
    rw [hq] at HO0
    have HO : Hid (∀ W, Hid (RS w W w.heap.size (.slice ad len cap) (.int .i64 r)) → Calls Tryz.prog 20 #[gv ad len cap r] W fun e W' => e = .returned (.tuple #[.slice none 0 0, .int .i64 1]) ∧ Hid (Below w.heap.size w W')) := fun W h => (HO0 W h.out).mono (fun e W' q => by
      obtain ⟨q1, q2⟩ := ores_noS q
      exact ⟨q1, h.out.bl.trans (q2.mono h.out.bl.size)⟩)
    clear HO0 hN hS
    go_enter Tryz.func9, Tryz.ntmps9
    go_wp2_with (go_at_call 20; refine (HO.out _ h0).mono ?_; rintro e w1 ⟨rfl, H1⟩)
    go_ret2
    exact ⟨by rw [if_neg (by decide)]; rfl, H1.out⟩
  case true =>
  rw [hq] at HO0
  obtain ⟨f1, f2, f3⟩ := rgG_facts hq
  rw [← HLn.out] at f1 f2
  obtain ⟨m, rfl, hm⟩ := isP_nat f2
  rw [Int.toNat_natCast] at HO0 ⊢
  have hsum := (hS (by have := HLn.out; omega)).2
  obtain ⟨b, off, rfl, HCN0⟩ := cn_of hN (by omega) hsum
  have HCN : Hid (CN w b off len ns) := HCN0
  have HLo : Hid (∀ a ∈ odG ns m, a < len) := fun a ha => by rw [HLn.out]; exact odG_lt f3 (by rw [← HLn.out]; exact hm) a ha
  obtain ⟨O, HOO⟩ : ∃ O, Hid (O = odG ns m) := ⟨_, rfl⟩
  rw [← HOO.out] at HLo HO0 ⊢
  have HO : Hid (∀ W, Hid (RS w W w.heap.size (.slice (some ⟨b, off, none⟩) len cap) (.int .i64 (m : Int))) → Calls Tryz.prog 20 #[gv (some ⟨b, off, none⟩) len cap (m : Int)] W fun e W' => ∃ oa oc, e = .returned (.tuple #[.slice oa O.length oc, .int .i64 0]) ∧ Hid (IAt W' oa O.length (O.map fun a : Nat => (a : Int)) ∧ O.length ≤ 5000 ∧ RS w W' w.heap.size (.slice (some ⟨b, off, none⟩) len cap) (.int .i64 (m : Int)))) := fun W h => (HO0 W h.out).mono (fun e W' q => by
    obtain ⟨oa, oc, q1, q2, q3, q4⟩ := ores_yesS q
    exact ⟨oa, oc, q1, q2, q3, h.out.later q4⟩)
  have HKB : Hid (∀ a, a < len → (kd ns a).length ≤ 1000000000) := fun a ha => by
    obtain ⟨_, plen, _, e, h, _⟩ := HCN0 a ha
    unfold kd
    rw [List.length_map, ← e]; exact h
  obtain ⟨SO, HSO⟩ : ∃ SO, Hid (SO = szL ns O) := ⟨_, rfl⟩
  rw [← HSO.out]
  obtain ⟨K0, HK0⟩ : ∃ K0, Hid (K0 = w.heap.size) := ⟨_, rfl⟩
  rw [← HK0.out] at HO h0
  clear HO0 hN hS f2 f3 hsum HCN0
  go_enter Tryz.func9, Tryz.ntmps9
  go_wp2_with fail
  rw [← HK0.out]
  generalize w.alloc (.cells #[.slice (some ⟨b, off, none⟩) len cap, .int .i64 (m : Int)] 24) = W0 at h0 ⊢
  refine (HO.out _ h0).mono ?_
  rintro e w1 ⟨oa, oc, rfl, H1⟩
  clear h0 HO
  obtain ⟨c0, c1⟩ := H1.out.2.2.g.c2
  have hOl : O.length ≤ 5000 := H1.out.2.1
  go_wp2_with fail
  go_loop [6, 19] (fun us ui => ∃ j : Nat, j ≤ O.length ∧ ui = .int .i64 (j : Int) ∧ us = .int .i64 ((szL ns (O.take j) : Nat) : Int)) (fun _ ui => O.length - (intOf ui).toNat)
  case atStart => exact ⟨0, Nat.zero_le _, rfl, rfl⟩
  case round =>
    obtain ⟨j, hj, rfl, rfl⟩ := hrel
    have hbd : szL ns (O.take j) ≤ 5000000000001 := by
      have h1 := szL_bd (ns := ns) (O := O.take j) (B := 1000000000) (fun x hx => HKB.out x (HLo.out x (List.mem_of_mem_take hx)))
      have h2 : (O.take j).length ≤ 5000 := by rw [List.length_take]; omega
      have h3 : (O.take j).length * 1000000000 ≤ 5000000000000 := Nat.le_trans (Nat.mul_le_mul_right 1000000000 h2) (by decide)
      exact Nat.le_trans h1 (Nat.le_trans (Nat.add_le_add_left h3 1) (by decide))
    by_cases hlt : j < O.length
    · obtain ⟨ob, ooff, rfl, hob, hoc⟩ := H1.out.1.2 (by omega)
      have x0 := (hoc j hlt).2
      have hoj : (O.map fun a : Nat => (a : Int)).getD j 0 = ((O.getD j 0 : Nat) : Int) := by
        rw [List.getD_eq_getElem?_getD, List.getElem?_map, List.getD_eq_getElem?_getD, List.getElem?_eq_getElem hlt]; rfl
      rw [hoj] at x0
      have hal : O.getD j 0 < len := by
        have : O.getD j 0 ∈ O := by rw [List.getD_eq_getElem?_getD, List.getElem?_eq_getElem hlt]; exact List.getElem_mem _
        exact HLo.out _ this
      have hsn := szL_snoc (ns := ns) hlt
      obtain ⟨pad, plen, pcap, e1, e2, _, _, _, hnc⟩ := HCN.out _ hal
      obtain ⟨_, _, y2⟩ := hnc _ H1.out.2.2.bl
      have hkl : (kd ns (O.getD j 0)).length = plen := by unfold kd; rw [List.length_map, e1]
      rw [hkl] at hsn
      generalize szL ns (O.take j) = S at hsn hbd ⊢
      generalize O.getD j 0 = a at x0 hal y2
      have ha0 : (0 : Int) ≤ (a : Int) := by omega
      have ha1 : (a : Int) < (len : Int) := by omega
      have hj0 : (0 : Int) ≤ (j : Int) := by omega
      have hj1 : (j : Int) < (O.length : Int) := by omega
      have HS2 : Hid (szL ns (O.take (j + 1)) = S + plen) := hsn
      clear hsn hnc e1 hoj hoc hkl hal
      go_wp2_with fail
      go_round
      case rel => exact ⟨j + 1, by omega, by go_num, by rw [HS2.out]; go_num⟩
      case measure => (simp [intOf] <;> omega)
    · have hje : j = O.length := by omega
      rw [hje, List.take_length, ← HSO.out]
      rw [hje, List.take_length, ← HSO.out] at hbd
      clear hje
      go_wp2_with fail
      go_ret2
      exact ⟨by rw [if_pos rfl]; rfl, H1.out.2.2.bl⟩
end Go.Proofs.YtaphijgbebhdlaaGreatDoor.Grp
end

section
/- Package iso's Shared, by its contract (a seat without the document's). -/
namespace Go.Proofs.YtaphijgbebhdlaaGreatDoor.Alk
open Utf Rws Pln Flw Grp
open Go.RowKit Go.Shelf
set_option linter.unusedSimpArgs false
set_option linter.unusedVariables false
set_option maxRecDepth 100000
set_option maxHeartbeats 8000000

def ivs (l : List Int) : List Value := l.map fun a => Value.int .i64 a
theorem cell_one_rc (w : World) (a : Value) (t : TypeId) : ∀ j u, [a][j]? = some u → (w.alloc (.cells #[a] t)).cell? ((⟨w.heap.size, 0, none⟩ : Addr).add j) = some u := by
  intro j u hj
  have e : (⟨w.heap.size, 0, none⟩ : Addr).add j = ⟨w.heap.size, j, none⟩ := by simp [Addr.add]; intro h; exact h.symm
  rw [e, World.cell?_alloc_new]
  match j, hj with
  | 0, hj => simpa using hj
/-- the nodes in order -/
def shN (ns : List Nd) (O : List Nat) : List Nd := O.map fun a => ns.getD a nd0
/-- how often each place comes -/
def shT (ns : List Nd) (r : Nat) (O : List Nat) : Nat → Nat := timN (Grp.bump (fun _ => 0) r) (shN ns O)
/-- the places that come more than once -/
def shO (ns : List Nd) (r : Nat) (O : List Nat) : List Nat := O.filter fun a => decide (1 < shT ns r O a)
theorem sumK_c {C : Nat} : ∀ ms : List Nd, (∀ n ∈ ms, n.kids.length ≤ C) → sumK ms ≤ ms.length * C
  | [], _ => by simp [sumK]
  | n :: t, h => by
    have e : sumK (n :: t) = n.kids.length + sumK t := by simp [sumK]
    have h1 := h n (by simp)
    have h2 := sumK_c t fun m hm => h m (by simp [hm])
    rw [e, List.length_cons, Nat.add_mul, Nat.one_mul]
    omega
theorem shN_at {ns : List Nd} {O : List Nat} {j : Nat} (h : j < O.length) : (shN ns O).getD j nd0 = ns.getD O[j] nd0 := by
  unfold shN
  rw [List.getD_eq_getElem?_getD, List.getElem?_map, List.getElem?_eq_getElem h]
  rfl
theorem fil_tk {p : Nat → Bool} {O : List Nat} {j : Nat} (h : j < O.length) : (O.take (j + 1)).filter p = (O.take j).filter p ++ (if p O[j] = true then [O[j]] else []) := by
  rw [List.take_succ_eq_append_getElem h, List.filter_append]
  congr 1
  by_cases q : p O[j] = true
  · rw [if_pos q]; simp [q]
  · rw [if_neg q]; simp [q]
/-- the times under way -/
structure ShS (W1 W : World) (KM len : Nat) (T : Nat → Nat) : Prop where
  m : Bx W KM (tA T len) 3
  bl : Below KM W1 W
theorem ShS.later {W1 W W' : World} {KM len : Nat} {T : Nat → Nat} (h : ShS W1 W KM len T) (hb : Below W.heap.size W W') : ShS W1 W' KM len T := ⟨h.m.later hb, h.bl.trans (hb.mono (Nat.le_of_lt h.m.lt))⟩
theorem ShS.bump {W1 W : World} {KM len : Nat} {T : Nat → Nat} (h : ShS W1 W KM len T) (i : Nat) : ShS W1 (W.setCell ⟨KM, i, none⟩ (.int .i64 ((T i + 1 : Nat) : Int))) KM len (Grp.bump T i) := by
  refine ⟨?_, h.bl.setCell (p := ⟨KM, i, none⟩) (Nat.le_refl _) _⟩
  have := h.m.set i (.int .i64 ((T i + 1 : Nat) : Int))
  rw [tA_set] at this
  exact this
/-- and the row of those that are shared -/
structure ShF (W1 W : World) (KM len : Nat) (T : Nat → Nat) (v : Value) (xs : List Nat) : Prop where
  s : ShS W1 W KM len T
  o : W.ownsRow (KM + 1) 3 1 v xs.length (ivs (xs.map fun a : Nat => (a : Int)))
theorem ShF.step {W1 wr A eW : World} {KM len : Nat} {T : Nat → Nat} {v ev : Value} {xs : List Nat} {a : Nat} (h : ShF W1 wr KM len T v xs) (hA : Below wr.heap.size wr A)
    (r1 : eW.ownsRow (KM + 1) 3 1 ev (xs.length + 1) (ivs (xs.map fun a : Nat => (a : Int)) ++ [.int .i64 (a : Int)])) (r2 : A.grownBy eW v.ownBlock) : ShF W1 eW KM len T ev (xs ++ [a]) := by
  have hK := h.s.m.lt
  have hs := hA.size
  refine ⟨⟨((r2.block KM (by omega) (fun e => by have := (own_block h.o e.symm).1; omega)).trans (hA.block KM hK)).trans h.s.m, ?_⟩, ?_⟩
  · exact (h.s.bl.trans (hA.mono (Nat.le_of_lt hK))).grown r2 (by omega) (fun k e => by have := (own_block h.o e).1; omega)
  · rw [List.length_append, List.length_singleton, List.map_append]
    unfold ivs at r1 ⊢
    rw [List.map_append]
    exact r1
theorem cell_one_sh (w : World) (a : Value) (t : TypeId) : ∀ j u, [a][j]? = some u → (w.alloc (.cells #[a] t)).cell? ((⟨w.heap.size, 0, none⟩ : Addr).add j) = some u := cell_one_rc w a t
theorem ores_no {w W : World} {O : List Nat} {e : Ending} (h : ORes w false O e W) : e = .returned (.tuple #[.slice none 0 0, .int .i64 1]) ∧ Below w.heap.size w W := by
  obtain ⟨h1, h2⟩ := h
  rw [if_neg (by decide)] at h1
  exact ⟨h1, h2⟩
theorem ores_yes {w W : World} {O : List Nat} {e : Ending} (h : ORes w true O e W) : ∃ ad cap, e = .returned (.tuple #[.slice ad O.length cap, .int .i64 0]) ∧ IAt W ad O.length (O.map fun a : Nat => (a : Int)) ∧ O.length ≤ 5000 ∧ Below w.heap.size w W := by
  obtain ⟨h1, h2⟩ := h
  rw [if_pos rfl] at h1
  obtain ⟨ad, cap, e1, e2, e3⟩ := h1
  exact ⟨ad, cap, e1, e2, e3, h2⟩
/-- what Shared answers: as Order, in a row of its own -/
def OSh (w : World) (q : Bool) (O : List Nat) (e : Ending) (w' : World) : Prop := ORes w q O e w' ∧ ∀ oa n oc er, e = .returned (.tuple #[.slice oa n oc, er]) → 0 < n → ∀ g, oa = some g → w.heap.size ≤ g.block
theorem pshared_core {w : World} {ad : Option Addr} {len cap : Nat} {r : Int} {ns : List Nd} (hlen : len ≤ 9223372036854775807) (hN : NAt w ad len ns) (hS : Sml ns) (hT : Tb w) :
    Calls Tryz.prog 44 #[gv ad len cap r] w (OSh w (rgG ⟨ns, r⟩) (shO ns r.toNat (odG ns r.toNat))) := by
  have HLn : Hid (len = ns.length) := hN.1
  have h0 : Hid (RS w (w.alloc (.cells #[.slice ad len cap, .int .i64 r] 24)) w.heap.size (.slice ad len cap) (.int .i64 r)) := ⟨Bx.new _ _ _, below_alloc _ _⟩
  have HO0 : ∀ W, RS w W w.heap.size (.slice ad len cap) (.int .i64 r) → Calls Tryz.prog 20 #[gv ad len cap r] W (ORes W (rgG ⟨ns, r⟩) (odG ns r.toNat)) := fun W h => order_core hlen (hN.later h.bl (Nat.le_refl _)) hS (hT.later h.bl)
  cases hq : rgG ⟨ns, r⟩
  case false =>
    rw [hq] at HO0
    have HO : Hid (∀ W, Hid (RS w W w.heap.size (.slice ad len cap) (.int .i64 r)) → Calls Tryz.prog 20 #[gv ad len cap r] W fun e W' => e = .returned (.tuple #[.slice none 0 0, .int .i64 1]) ∧ Hid (Below w.heap.size w W')) := fun W h => (HO0 W h.out).mono (fun e W' q => by
      obtain ⟨q1, q2⟩ := ores_no q
      exact ⟨q1, h.out.bl.trans (q2.mono h.out.bl.size)⟩)
    clear HO0 hN hS
    go_enter Tryz.func44, Tryz.ntmps44
    go_wp2_with (go_at_call 20; refine (HO.out _ h0).mono ?_; rintro e w1 ⟨rfl, H1⟩)
    go_ret2
    refine ⟨⟨by rw [if_neg (by decide)]; rfl, H1.out⟩, fun oa n oc er he hn g hg => ?_⟩
    simp at he
    omega
  case true =>
  rw [hq] at HO0
  obtain ⟨f1, f2, f3⟩ := rgG_facts hq
  rw [← HLn.out] at f1 f2
  obtain ⟨m, rfl, hm⟩ := isP_nat f2
  rw [Int.toNat_natCast] at HO0 ⊢
  have hsum := (hS (by have := HLn.out; omega)).2
  obtain ⟨b, off, rfl, hb, hc⟩ := hN.2 (by omega)
  have HLo : Hid (∀ a ∈ odG ns m, a < len) := fun a ha => by rw [HLn.out]; exact odG_lt f3 (by rw [← HLn.out]; exact hm) a ha
  obtain ⟨O, HOO⟩ : ∃ O, Hid (O = odG ns m) := ⟨_, rfl⟩
  rw [← HOO.out] at HLo HO0 ⊢
  have HO : Hid (∀ W, Hid (RS w W w.heap.size (.slice (some ⟨b, off, none⟩) len cap) (.int .i64 (m : Int))) → Calls Tryz.prog 20 #[gv (some ⟨b, off, none⟩) len cap (m : Int)] W fun e W' => ∃ oa oc, e = .returned (.tuple #[.slice oa O.length oc, .int .i64 0]) ∧ Hid (IAt W' oa O.length (O.map fun a : Nat => (a : Int)) ∧ O.length ≤ 5000 ∧ RS w W' w.heap.size (.slice (some ⟨b, off, none⟩) len cap) (.int .i64 (m : Int)))) := fun W h => (HO0 W h.out).mono (fun e W' q => by
    obtain ⟨oa, oc, q1, q2, q3, q4⟩ := ores_yes q
    exact ⟨oa, oc, q1, q2, q3, h.out.later q4⟩)
  have HCN : Hid (∀ p, p < len → ∃ pad plen pcap, plen = (ns.getD p nd0).kids.length ∧ plen ≤ 1000000000 ∧ (0 < plen → ∃ kb koff, pad = some ⟨kb, koff, none⟩ ∧ ∀ W, Below w.heap.size w W → ∀ i, i < plen → W.cell? ⟨kb, koff + i, none⟩ = some (.int .i64 ((ns.getD p nd0).kids.getD i 0))) ∧ ∀ W, Below w.heap.size w W → W.cell? ⟨b, off + p * 3, none⟩ = some (.int .i64 (ns.getD p nd0).kind) ∧ W.cell? ⟨b, off + p * 3 + 1, none⟩ = some (.string (mk (ns.getD p nd0).text)) ∧ W.cell? ⟨b, off + p * 3 + 2, none⟩ = some (.slice pad plen pcap)) := fun p hp => by
    obtain ⟨pad, plen, pcap, q1, q2, q3, q4, q5, z0, z1, z2⟩ := hc p hp
    have hmm := mem_getD (by rw [← HLn.out]; exact hp : p < ns.length)
    have := kids_sum hmm
    refine ⟨pad, plen, pcap, q5.1, by have := q5.1; omega, fun hpp => ?_, fun W h => ⟨(h.cell (p := ⟨b, off + p * 3, none⟩) hb).trans z0, (h.cell (p := ⟨b, off + p * 3 + 1, none⟩) hb).trans z1, (h.cell (p := ⟨b, off + p * 3 + 2, none⟩) hb).trans z2⟩⟩
    obtain ⟨kb, koff, e, hkb, hkc⟩ := q5.2 hpp
    exact ⟨kb, koff, e, fun W h i hi => (h.cell (p := ⟨kb, koff + i, none⟩) hkb).trans (hkc i hi).2⟩
  have HKP : Hid (∀ p, p < len → ∀ i, i < (ns.getD p nd0).kids.length → ∃ q : Nat, (ns.getD p nd0).kids.getD i 0 = (q : Int) ∧ q < len) := fun p hp i hi => by
    have := isP_nat (f3 _ (mem_getD (by rw [← HLn.out]; exact hp : p < ns.length)) _ (mem_getI hi))
    rw [HLn.out]; exact this
  -- how large the times may get
  have HTB : Hid (∀ j, j < O.length → ∀ x, timN (Grp.bump (fun _ => 0) m) ((shN ns O).take j) x + (ns.getD (O.getD j 0) nd0).kids.length ≤ 1 + O.length * 1000000000) := fun j hj x => by
    have h1 := timN_le ((shN ns O).take j) (Grp.bump (fun _ => 0) m) x
    have h2 := bump_le (fun _ => 0) m x
    have hl : (shN ns O).length = O.length := by unfold shN; rw [List.length_map]
    have h3 := sumK_at (shN ns O) j (by rw [hl]; exact hj)
    have h4 := sumK_c (C := 1000000000) (shN ns O) (fun n hn => by
      unfold shN at hn
      obtain ⟨a, ha, rfl⟩ := List.mem_map.1 hn
      have := kids_sum (mem_getD (by rw [← HLn.out]; exact HLo.out a ha : a < ns.length))
      omega)
    rw [shN_at hj] at h3
    rw [hl] at h4
    have e : O.getD j 0 = O[j] := by rw [List.getD_eq_getElem?_getD, List.getElem?_eq_getElem hj]; rfl
    rw [e]
    omega
  have HTA : Hid (shT ns m O = timN (Grp.bump (fun _ => 0) m) ((shN ns O).take O.length)) := by
    show _ = _
    unfold shT
    rw [List.take_of_length_le (by unfold shN; rw [List.length_map]; exact Nat.le_refl _)]
  have HTS : Hid (∀ j, j < O.length → timN (Grp.bump (fun _ => 0) m) ((shN ns O).take (j + 1)) = bmps (timN (Grp.bump (fun _ => 0) m) ((shN ns O).take j)) (ns.getD (O.getD j 0) nd0).kids) := fun j hj => by
    have e : O.getD j 0 = O[j] := by rw [List.getD_eq_getElem?_getD, List.getElem?_eq_getElem hj]; rfl
    rw [timN_snoc _ _ _ (by unfold shN; rw [List.length_map]; exact hj), shN_at hj, e]
  have hmk := fun w' : World => run_make_row' (P := Tryz.prog) 45 3 (.int .i64 0) 8 Tryz.underInts Tryz.infoInt rfl .i64 .i64 len (by omega) (by omega) w'
  obtain ⟨i1, hi1, hy0, hy1, hy2⟩ := info_parts Tryz.infoInt
  obtain ⟨K0, HK0⟩ : ∃ K0, Hid (K0 = w.heap.size) := ⟨_, rfl⟩
  rw [← HK0.out] at HO h0
  clear HO0 hN hS hc f2 f3 hsum hb
  go_enter Tryz.func44, Tryz.ntmps44
  go_wp2_with fail
  rw [← HK0.out]
  generalize w.alloc (.cells #[.slice (some ⟨b, off, none⟩) len cap, .int .i64 (m : Int)] 24) = W0 at h0 ⊢
  refine (HO.out _ h0).mono ?_
  rintro e w1 ⟨oa, oc, rfl, H1⟩
  clear h0 HO
  obtain ⟨c0, c1⟩ := H1.out.2.2.g.c2
  have hOl : O.length ≤ 5000 := H1.out.2.1
  have HKW : Hid (w.heap.size ≤ w1.heap.size) := H1.out.2.2.bl.size
  go_upto_region 5 with fail
  clear hmk
  obtain ⟨KM, HKM⟩ : ∃ KM, Hid (KM = w1.heap.size) := ⟨_, rfl⟩
  have HM0 : Hid (ShS w1 (w1.alloc (.cells (madeCells #[Value.int .i64 0] len) 3)) KM len (fun _ => 0)) := by
    rw [HKM.out, tA_made]
    exact ⟨Bx.new _ _ _, below_alloc _ _⟩
  rw [← HKM.out]
  generalize w1.alloc (.cells (madeCells #[Value.int .i64 0] len) 3) = W2 at HM0 ⊢
  have HAll : Hid (∀ W, Below KM w1 W → Below w.heap.size w W ∧ W.cell? ⟨K0, 0, none⟩ = some (.slice (some ⟨b, off, none⟩) len cap) ∧ W.cell? ⟨K0, 1, none⟩ = some (.int .i64 (m : Int)) ∧ ∀ j, j < O.length → ∃ ob ooff, oa = some ⟨ob, ooff, none⟩ ∧ W.cell? ⟨ob, ooff + j, none⟩ = some (.int .i64 ((O.getD j 0 : Nat) : Int))) := fun W h => by
    rw [HKM.out] at h
    have hr := H1.out.2.2.later h
    refine ⟨hr.bl, hr.g.c2.1, hr.g.c2.2, fun j hj => ?_⟩
    obtain ⟨ob, ooff, e, hob, hoc⟩ := H1.out.1.2 (by omega)
    refine ⟨ob, ooff, e, (h.cell (p := ⟨ob, ooff + j, none⟩) hob).trans ?_⟩
    have := (hoc j hj).2
    rw [List.getD_eq_getElem?_getD, List.getElem?_map, List.getElem?_eq_getElem hj] at this
    rw [this, List.getD_eq_getElem?_getD, List.getElem?_eq_getElem hj]
    rfl
  clear c0 c1 H1
  obtain ⟨_, c0, c1, _⟩ := HAll.out _ HM0.out.bl
  obtain ⟨T0, HT0⟩ : ∃ T0 : Nat → Nat, Hid (T0 = fun _ => 0) := ⟨_, rfl⟩
  rw [← HT0.out] at HM0 HTB HTA HTS
  have m0 := (HM0.out.m.cell m).trans (tA_get T0 hm)
  have z0 := HM0.out.m.fz m
  have hT0 : T0 m ≤ 1 := by rw [HT0.out]; exact Nat.zero_le 1
  have HM1 := HM0.out.bump m
  generalize hTm : T0 m = tp at HM1 m0 hT0
  have HM2 : Hid (ShS w1 (W2.setCell ⟨KM, m, none⟩ (.int .i64 ((tp : Int) + 1))) KM len (Grp.bump T0 m)) := HM1
  have hm0 : (0 : Int) ≤ (m : Int) := by omega
  have hm1 : (m : Int) < (len : Int) := by omega
  clear HM1 hTm
  go_upto_region 6 with fail
  clear HM0 c0 c1 m0 z0 hT0
  generalize W2.setCell ⟨KM, m, none⟩ (.int .i64 ((tp : Int) + 1)) = W3 at HM2 ⊢
  go_wp2_with fail
  go_loopw [35] (fun i wr => ∃ j : Nat, j ≤ O.length ∧ i = .int .i64 (j : Int) ∧ Hid (ShS w1 wr KM len (timN (Grp.bump T0 m) ((shN ns O).take j)))) (fun i _ => O.length - (intOf i).toNat)
  case atStart => exact ⟨0, Nat.zero_le _, rfl, HM2⟩
  case round =>
    obtain ⟨j, hj, rfl, HS⟩ := hrel
    clear HM2
    by_cases hlt : j < O.length
    · obtain ⟨hbw, c0, c1, hoc⟩ := HAll.out _ HS.out.bl
      obtain ⟨ob, ooff, rfl, x0⟩ := hoc j hlt
      have hal : O.getD j 0 < len := by
        have : O.getD j 0 ∈ O := by rw [List.getD_eq_getElem?_getD, List.getElem?_eq_getElem hlt]; exact List.getElem_mem _
        exact HLo.out _ this
      have HTJ : Hid (timN (Grp.bump T0 m) ((shN ns O).take (j + 1)) = bmps (timN (Grp.bump T0 m) ((shN ns O).take j)) (ns.getD (O.getD j 0) nd0).kids) := HTS.out j hlt
      have HTb : Hid (∀ x, timN (Grp.bump T0 m) ((shN ns O).take j) x + (ns.getD (O.getD j 0) nd0).kids.length ≤ 1 + O.length * 1000000000) := HTB.out j hlt
      generalize O.getD j 0 = a at x0 hal HTJ HTb
      generalize timN (Grp.bump T0 m) ((shN ns O).take j) = T at HS HTJ HTb
      obtain ⟨kad, klen, kcap, k3, kb1, k6, k7⟩ := HCN.out a hal
      obtain ⟨y0, y1, y2⟩ := k7 _ hbw
      have HKp := HKP.out a hal
      obtain ⟨kk, hkk⟩ : ∃ kk, kk = (ns.getD a nd0).kind := ⟨_, rfl⟩
      obtain ⟨kx, hkx⟩ : ∃ kx, kx = (ns.getD a nd0).text := ⟨_, rfl⟩
      obtain ⟨ll, hl2⟩ : ∃ ll, ll = (ns.getD a nd0).kids := ⟨_, rfl⟩
      rw [← hkk] at y0
      rw [← hkx] at y1
      rw [← hl2] at k3 k6 HKp HTJ HTb
      have HKL : Hid (klen = ll.length) := k3
      have H6 : Hid (0 < klen → ∃ kb koff, kad = some ⟨kb, koff, none⟩ ∧ ∀ W, Below w.heap.size w W → ∀ i, i < klen → W.cell? ⟨kb, koff + i, none⟩ = some (.int .i64 (ll.getD i 0))) := k6
      have H8 : Hid (∀ i, i < ll.length → ∃ q : Nat, ll.getD i 0 = (q : Int) ∧ q < len) := HKp
      have ha0 : (0 : Int) ≤ (a : Int) := by omega
      have ha1 : (a : Int) < (len : Int) := by omega
      have hj0 : (0 : Int) ≤ (j : Int) := by omega
      have hj1 : (j : Int) < (O.length : Int) := by omega
      clear hkk hkx hl2 k3 k6 k7 HKp hbw hoc hal

      go_wp2_with fail
      go_loopw [46] (fun i wr => ∃ k : Nat, k ≤ klen ∧ i = .int .i64 (k : Int) ∧ Hid (ShS w1 wr KM len (bmps T (ll.take k)))) (fun i _ => klen - (intOf i).toNat)
      case atStart => exact ⟨0, Nat.zero_le _, rfl, HS⟩
      case round =>
        obtain ⟨k, hk, rfl, HJ⟩ := hrel
        clear HS
        by_cases hkl : k < klen
        · have hk0 : (0 : Int) ≤ (k : Int) := by omega
          have hk1 : (k : Int) < (klen : Int) := by omega
          obtain ⟨kb, koff, rfl, hkc⟩ := H6.out (by omega)
          obtain ⟨p, hp, hpl⟩ := H8.out k (by rw [← HKL.out]; exact hkl)
          have q0 := hkc _ (HAll.out _ HJ.out.bl).1 k hkl
          rw [hp] at q0
          have m0 := (HJ.out.m.cell p).trans (tA_get (bmps T (ll.take k)) hpl)
          have z0 := HJ.out.m.fz p
          have hTp : bmps T (ll.take k) p ≤ 10000000000000 := by
            have h1 := bmps_le (ll.take k) T p
            have h2 := HTb.out p
            rw [List.length_take] at h1
            have h3 : O.length * 1000000000 ≤ 5000 * 1000000000 := Nat.mul_le_mul_right _ hOl
            omega
          have HT4 : Grp.bump (bmps T (ll.take k)) p = bmps T (ll.take (k + 1)) := by
            rw [bmps_snoc T ll k (by rw [← HKL.out]; exact hkl), hp, Int.toNat_natCast]
          have HJ2 := HJ.out.bump p
          rw [HT4] at HJ2
          generalize bmps T (ll.take k) p = tp at m0 hTp HJ2
          have HJ3 : Hid (ShS w1 (wr.setCell ⟨KM, p, none⟩ (.int .i64 ((tp : Int) + 1))) KM len (bmps T (ll.take (k + 1)))) := HJ2
          have hp0 : (0 : Int) ≤ (p : Int) := by omega
          have hp1 : (p : Int) < (len : Int) := by omega
          clear HT4 HJ HJ2 hkc hp
          go_wp2_with fail
          generalize wr.setCell ⟨KM, p, none⟩ (.int .i64 ((tp : Int) + 1)) = W6 at HJ3 ⊢
          go_roundw
          case rel => exact ⟨k + 1, by omega, by go_num, HJ3⟩
          case measure => (simp [intOf] <;> omega)
        · have hke : k = klen := by omega
          have HJ3 : Hid (ShS w1 wr KM len (timN (Grp.bump T0 m) ((shN ns O).take (j + 1)))) := by
            have := HJ.out
            rw [hke, List.take_of_length_le (by rw [HKL.out]; exact Nat.le_refl _), ← HTJ.out] at this
            exact this
          clear HJ hke HTJ HTb
          go_wp2_with fail
          go_roundw
          case rel => exact ⟨j + 1, by omega, by go_num, HJ3⟩
          case measure => (simp [intOf] <;> omega)
    · have hje : j = O.length := by omega
      have HS2 : Hid (ShS w1 wr KM len (shT ns m O)) := by
        have := HS.out
        rw [hje, ← HTA.out] at this
        exact this
      have HSO : Hid (∀ j, j < O.length → ∀ a, O.getD j 0 = a → (O.take (j + 1)).filter (fun a => decide (1 < shT ns m O a)) = (O.take j).filter (fun a => decide (1 < shT ns m O a)) ++ (if 1 < shT ns m O a then [a] else [])) := fun j hj a e => by
        rw [fil_tk hj]
        rw [List.getD_eq_getElem?_getD, List.getElem?_eq_getElem hj] at e
        simp only [Option.getD_some] at e
        rw [e]
        simp
      have HSE : Hid (shO ns m O = (O.take O.length).filter (fun a => decide (1 < shT ns m O a))) := by
        show _ = _
        rw [List.take_length]; rfl
      have HTB9 : Hid (∀ x, shT ns m O x ≤ 10000000000000) := fun x => by
        have h1 := timN_le (shN ns O) (Grp.bump T0 m) x
        have h2 := bump_le T0 m x
        have h5 : T0 x = 0 := by rw [HT0.out]
        have h4 := sumK_c (C := 1000000000) (shN ns O) (fun n hn => by
          unfold shN at hn
          obtain ⟨a, ha, rfl⟩ := List.mem_map.1 hn
          obtain ⟨_, plen, _, e, h, _⟩ := HCN.out a (HLo.out a ha)
          omega)
        have hl : (shN ns O).length = O.length := by unfold shN; rw [List.length_map]
        rw [hl] at h4
        have h3 : O.length * 1000000000 ≤ 5000 * 1000000000 := Nat.mul_le_mul_right _ hOl
        have h6 : shT ns m O x = timN (Grp.bump T0 m) (shN ns O) x := by unfold shT; rw [HT0.out]
        omega
      clear HS hje HTA HTS HTB HCN HKP
      generalize shT ns m O = T at HS2 HSO HSE HTB9
      go_wp2_with fail
      go_loopw [11, 60] (fun ov i wr => ∃ (sa : Option Addr) (sc j : Nat) (xs : List Nat), ov = .slice sa xs.length sc ∧ j ≤ O.length ∧ i = .int .i64 (j : Int) ∧ Hid (xs = (O.take j).filter (fun a => decide (1 < T a)) ∧ ShF w1 wr KM len T (.slice sa xs.length sc) xs)) (fun _ i _ => O.length - (intOf i).toNat)
      case atStart => exact ⟨none, 0, 0, [], rfl, Nat.zero_le _, rfl, by simp, HS2.out, World.ownsRow_nil _ _ _ _⟩
      case round =>
        obtain ⟨sa, sc, j, xs, rfl, hj, rfl, HF⟩ := hrel
        clear HS2
        have hxl : xs.length ≤ 5000 := by
          have h1 := List.length_filter_le (fun a => decide (1 < T a)) (O.take j)
          rw [← HF.out.1, List.length_take] at h1
          omega
        by_cases hlt : j < O.length
        · obtain ⟨hbw, c0, c1, hoc⟩ := HAll.out _ HF.out.2.s.bl
          obtain ⟨ob, ooff, rfl, x0⟩ := hoc j hlt
          have hal : O.getD j 0 < len := by
            have : O.getD j 0 ∈ O := by rw [List.getD_eq_getElem?_getD, List.getElem?_eq_getElem hlt]; exact List.getElem_mem _
            exact HLo.out _ this
          have HXJ := HSO.out j hlt (O.getD j 0) rfl
          rw [← HF.out.1] at HXJ
          generalize O.getD j 0 = a at x0 hal HXJ
          have m0 := (HF.out.2.s.m.cell a).trans (tA_get T hal)
          have hTa := HTB9.out a
          have ha0 : (0 : Int) ≤ (a : Int) := by omega
          have ha1 : (a : Int) < (len : Int) := by omega
          have hj0 : (0 : Int) ≤ (j : Int) := by omega
          have hj1 : (j : Int) < (O.length : Int) := by omega
          have HFo : Hid (ShF w1 wr KM len T (.slice sa xs.length sc) xs) := HF.out.2
          have hkm : KM < wr.heap.size := HF.out.2.s.m.lt
          by_cases ht : 1 < T a
          · rw [if_pos ht] at HXJ
            have HX2 : Hid (xs ++ [a] = (O.take (j + 1)).filter (fun a => decide (1 < T a))) := HXJ.symm
            have ht2 : (1 : Int) < (T a : Int) := by omega
            clear HXJ HF hbw hoc HSO HSE HLo HTB9 ht c0 c1
            generalize T a = ta at m0 hTa ht2
            go_wp2_with (at_builtin; refine wpList_append_own_at _ rfl _ _ 45 rfl (KM + 1) 3 i1 (.int .i64 0) 1 8 Tryz.underInts hi1 hy0 hy1 hy2 rfl (by decide) _ _ _ rfl (HFo.out.o.alloc _) ⟨wr.heap.size, 0, none⟩ 1 1 [.int .i64 (a : Int)] rfl rfl (cell_one_sh _ _ _) (fun u hu => by simp at hu; subst hu; rfl) (by have : maxLen = 9223372036854775807 := rfl; omega) (by omega) (by rw [World.size_alloc]; omega) ?_; intro ov W8 hown hgr hnil hat)
            have HY := HFo.out.step (a := a) (below_alloc _ _) hown hgr
            obtain ⟨va, vc, rfl, _, _⟩ := own_shapeN hown
            have HY2 : Hid (xs ++ [a] = (O.take (j + 1)).filter (fun a => decide (1 < T a)) ∧ ShF w1 W8 KM len T (.slice va (xs ++ [a]).length vc) (xs ++ [a])) := ⟨HX2.out, by rw [List.length_append]; exact HY⟩
            have hxl2 : (xs ++ [a]).length = xs.length + 1 := by rw [List.length_append]; rfl
            clear HY hown hgr hnil hat HFo HX2 m0 x0
            go_roundw
            case rel => exact ⟨va, vc, j + 1, xs ++ [a], by rw [hxl2], by omega, by go_num, HY2⟩
            case measure => (simp [intOf] <;> omega)
          · rw [if_neg ht, List.append_nil] at HXJ
            have HY2 : Hid (xs = (O.take (j + 1)).filter (fun a => decide (1 < T a)) ∧ ShF w1 wr KM len T (.slice sa xs.length sc) xs) := ⟨HXJ.symm, HFo.out⟩
            have ht2 : ¬ (1 : Int) < (T a : Int) := by omega
            clear HXJ HF hbw hoc HSO HSE HLo HTB9 ht c0 c1 HFo
            generalize T a = ta at m0 hTa ht2
            go_wp2_with fail
            go_roundw
            case rel => exact ⟨sa, sc, j + 1, xs, rfl, by omega, by go_num, HY2⟩
            case measure => (simp [intOf] <;> omega)
        · have hje : j = O.length := by omega
          have HFin : Hid (OSh w true (shO ns m O) (.returned (.tuple #[.slice sa xs.length sc, .int .i64 0])) wr) := by
            have h1 := HF.out.1
            rw [hje, ← HSE.out] at h1
            have h2 := HF.out.2.o
            obtain ⟨q1, q2, q3⟩ := iat_own (show wr.ownsRow (KM + 1) 3 1 (.slice sa xs.length sc) xs.length ((xs.map fun a : Nat => (a : Int)).map fun a => Value.int .i64 a) from h2) (fun z hz => by
              obtain ⟨a, ha, rfl⟩ := List.mem_map.1 hz
              have h3 : a ∈ O := by
                have h4 := HF.out.1
                rw [h4] at ha
                exact List.mem_of_mem_take (List.mem_filter.1 ha).1
              have := HLo.out a h3
              constructor <;> omega)
            have h9 : ∀ g, (Value.slice sa xs.length sc).ownBlock = some g → w.heap.size ≤ g := fun g hg => by
              have e1 := (own_block h2 hg).1
              have e2 := HKM.out
              have e3 := HKW.out
              omega
            refine ⟨⟨?_, (HAll.out _ HF.out.2.s.bl).1⟩, fun oa n oc er he hn g hg => ?_⟩
            · rw [if_pos rfl, ← h1]
              exact ⟨sa, sc, rfl, q1.1, hxl⟩
            · simp at he
              obtain ⟨⟨rfl, _, _⟩, _⟩ := he
              subst hg
              exact h9 g.block rfl
          clear HF HAll HSO HSE HLo HTB9
          go_wp2_with fail
          go_ret2
          exact HFin.out
end Go.Proofs.YtaphijgbebhdlaaGreatDoor.Alk
end

section
/- Package lay's next and anchorsOf, by their contracts. -/
namespace Go.Proofs.YtaphijgbebhdlaaGreatDoor.Grp
open Utf Rws Pln Flw
open Go.RowKit
set_option linter.unusedSimpArgs false
set_option linter.unusedVariables false
set_option maxRecDepth 100000
set_option maxHeartbeats 4000000

theorem mk_app97 (l : Ln) : mk [97] ++ mk l = mk (97 :: l) := by
  have h : (mk [97] ++ mk l).data.toList = 97 :: l := by
    rw [ByteArray.data_append, Array.toList_append, mk_data, mk_data]
    rfl
  rw [← mk_of (mk [97] ++ mk l), h]
theorem infoStr : (Tryz.prog.info? 9).map (fun i => (i.zero, i.size, i.bytes)) = some (some (.string ⟨#[]⟩), 1, 16) := by kernel_rfl
theorem underStr : Tryz.prog.underlying 75 = some (.slice 9) := by kernel_rfl
theorem shO_shL (ns : List Nd) (r : Nat) : Alk.shO ns r (odG ns r) = shL ns r := by
  unfold Alk.shO shL
  congr 1
  funext a
  congr 1
  unfold Alk.shT tmG
  rw [timN_eq]
  congr 2
  · unfold bump
    by_cases e : r = a
    · subst e; simp
    · rw [if_neg e]; simp [Ne.symm e, e]
  · unfold Alk.shN
    rw [List.map_map]
    rfl
/-- the anchors under way: their row, and the one that hands out names -/
structure AnS (w0 w W : World) (KN CA len : Nat) (v : Nat) (nm : Nat → Ln) : Prop where
  n : Bx W KN #[.int .i64 (v : Int)] 79
  a : Bx W CA (sA nm len) 9
  ex : Ex KN w W
  bl : Below w0.heap.size w0 W
  h0 : w0.heap.size ≤ KN
  h1 : KN < w.heap.size
  h2 : w.heap.size ≤ CA
theorem ans_later {w0 w W W' : World} {KN CA len v : Nat} {nm : Nat → Ln} (h : AnS w0 w W KN CA len v nm) (hb : Below W.heap.size W W') : AnS w0 w W' KN CA len v nm :=
  ⟨h.n.later hb, h.a.later hb, h.ex.trans (Ex.of hb), h.bl.trans (hb.mono h.bl.size), h.h0, h.h1, h.h2⟩
theorem ans_next {w0 w W : World} {KN CA len v : Nat} {nm : Nat → Ln} (h : AnS w0 w W KN CA len v nm) : AnS w0 w (W.setCell ⟨KN, 0, none⟩ (.int .i64 ((v + 1 : Nat) : Int))) KN CA len (v + 1) nm :=
  ⟨h.n.set 0 _, h.a.other (by have := h.h1; have := h.h2; omega) _ _, h.ex.set 0 _, h.bl.setCell (p := ⟨KN, 0, none⟩) h.h0 _, h.h0, h.h1, h.h2⟩
theorem ans_name {w0 w W : World} {KN CA len v : Nat} {nm : Nat → Ln} (h : AnS w0 w W KN CA len v nm) (i : Nat) (s : Ln) : AnS w0 w (W.setCell ⟨CA, i, none⟩ (.string (mk s))) KN CA len v (fun x => if x = i then s else nm x) := by
  have h0 := h.h0
  have h1 := h.h1
  have h2 := h.h2
  refine ⟨h.n.other (by omega) _ _, ?_, h.ex.new h2 i _, h.bl.setCell (p := ⟨CA, i, none⟩) (by show w0.heap.size ≤ CA; omega) _, h0, h1, h2⟩
  have := h.a.set i (.string (mk s))
  rw [sA_set] at this
  exact this
theorem next_any {w0 w W : World} {KN CA len v : Nat} {nm : Nat → Ln} (h : AnS w0 w W KN CA len v nm) (hv : v ≤ 100000) (hT : Tb w0) : Calls Tryz.prog 29 #[.pointer (some ⟨KN, 0, none⟩)] W fun e W' => e = .returned (.string (mk (97 :: Lib.itoa ((v : Int) + 1)))) ∧ Hid (AnS w0 w W' KN CA len (v + 1) nm) ∧ Hid (Ex KN W W') := by
  have HS1 : Hid (AnS w0 w (W.setCell ⟨KN, 0, none⟩ (.int .i64 ((v + 1 : Nat) : Int))) KN CA len (v + 1) nm) := ans_next h
  have HX1 : Hid (Ex KN W (W.setCell ⟨KN, 0, none⟩ (.int .i64 ((v + 1 : Nat) : Int)))) := (Ex.refl KN W).set 0 _
  have HI : Hid (∀ W', Hid (AnS w0 w W' KN CA len (v + 1) nm) → Hid (Ex KN W W') → Calls Tryz.prog 45 #[.int .i64 ((v : Int) + 1)] W' fun e W'' => e = .returned (.string (mk (Lib.itoa ((v : Int) + 1)))) ∧ Hid (AnS w0 w W'' KN CA len (v + 1) nm) ∧ Hid (Ex KN W W'')) := fun W' h' hx =>
    (Pln.itoa_any _ _ (by constructor <;> omega) (hT.later h'.out.bl).1).mono (fun e W'' q => ⟨q.1, ans_later h'.out q.2, hx.out.trans (Ex.of q.2)⟩)
  have hIl : (Lib.itoa ((v : Int) + 1)).length ≤ 20 := Pln.itoa_len _ (by constructor <;> omega)
  have hIs : (mk (Lib.itoa ((v : Int) + 1))).size ≤ 20 := by rw [mk_size]; exact hIl
  generalize Lib.itoa ((v : Int) + 1) = I at *
  have c0 : W.cell? ⟨KN, 0, none⟩ = some (.int .i64 (v : Int)) := h.n.cell 0
  have z0 := h.n.fz 0
  have HM : Hid (∀ l : Ln, (⟨#[97]⟩ : ByteArray) ++ mk l = mk (97 :: l)) := fun l => by
    show (mk [97]) ++ mk l = mk (97 :: l)
    exact mk_app97 l
  clear h hT
  go_enter Tryz.func29, Tryz.ntmps29
  go_upto_region 2 with fail
  rw [show ((v : Int) + 1) = ((v + 1 : Nat) : Int) by omega] at HI ⊢
  generalize W.setCell ⟨KN, 0, none⟩ (.int .i64 ((v + 1 : Nat) : Int)) = W1 at HS1 HX1 ⊢
  clear c0 z0
  have c0 : W1.cell? ⟨KN, 0, none⟩ = some (.int .i64 ((v + 1 : Nat) : Int)) := HS1.out.n.cell 0
  go_wp2_with (go_at_call 45; refine (HI.out _ HS1 HX1).mono ?_; rintro e W2 ⟨rfl, HS2, HX2⟩)
  rw [HM.out]
  go_ret
  exact ⟨rfl, HS2, HX2⟩
theorem anchors_core {w0 w : World} {b off len cap m KN : Nat} {ns : List Nd} (hq : rgG ⟨ns, (m : Int)⟩ = true) (hlen : len ≤ 4096) (hN : NAt w0 (some ⟨b, off, none⟩) len ns) (hS : Sml ns) (hT : Tb w0) (hb : Below w0.heap.size w0 w) (hB : Bx w KN #[.int .i64 0] 79) (h0 : w0.heap.size ≤ KN) (hm : m < len) :
    Calls Tryz.prog 28 #[gv (some ⟨b, off, none⟩) len cap (m : Int), .func (.func 29) #[.pointer (some ⟨KN, 0, none⟩)] #[]] w fun e W => ∃ CA v, e = .returned (.slice (some ⟨CA, 0, none⟩) len len) ∧ AnS w0 w W KN CA len v (nmG ns m) := by
  obtain ⟨S, HSS⟩ : ∃ S, Hid (S = shL ns m) := ⟨_, rfl⟩
  have HSn : Hid (S.Nodup) := by rw [HSS.out]; exact odG_shNd ns m
  have HNM : Hid (∀ i, nmJ S S.length i = nmG ns m i) := fun i => by rw [HSS.out]; exact nmJ_all ns m i
  obtain ⟨NG, HNG⟩ : ∃ NG, Hid (NG = nmG ns m) := ⟨_, rfl⟩
  rw [← HNG.out] at HNM ⊢
  obtain ⟨f1, f2, f3⟩ := rgG_facts hq
  have hml : m < ns.length := by rw [← hN.1]; exact hm
  have HLo : Hid (∀ a ∈ S, a < len) := fun a ha => by
    rw [HSS.out] at ha
    rw [hN.1]
    exact odG_lt f3 hml a ((List.mem_filter.1 ha).1)
  have HSh : Hid (∀ W, Below w0.heap.size w0 W → Calls Tryz.prog 44 #[gv (some ⟨b, off, none⟩) len cap (m : Int)] W fun e W' => ∃ oa oc, e = .returned (.tuple #[.slice oa S.length oc, .int .i64 0]) ∧ Hid (IAt W' oa S.length (S.map fun a : Nat => (a : Int)) ∧ S.length ≤ 5000 ∧ Below W.heap.size W W' ∧ (0 < S.length → ∀ g, oa = some g → W.heap.size ≤ g.block))) := fun W h => by
    refine (Alk.pshared_core (by omega) (hN.later h (Nat.le_refl _)) hS (hT.later h)).mono (fun e W' q => ?_)
    rw [hq, Int.toNat_natCast, shO_shL, ← HSS.out] at q
    obtain ⟨oa, oc, q1, q2, q3, q4⟩ := ores_yesS q.1
    exact ⟨oa, oc, q1, q2, q3, q4, fun hp g hg => q.2 oa S.length oc _ q1 hp g hg⟩
  have HNX : Hid (∀ W CA v nm, v ≤ 100000 → AnS w0 w W KN CA len v nm → Calls Tryz.prog 29 #[.pointer (some ⟨KN, 0, none⟩)] W fun e W' => e = .returned (.string (mk (97 :: Lib.itoa ((v : Int) + 1)))) ∧ Hid (AnS w0 w W' KN CA len (v + 1) nm) ∧ Hid (Ex KN W W')) := fun W CA v nm hv h => next_any h hv hT
  have b0 := below_alloc w (.cells #[.slice (some ⟨b, off, none⟩) len cap, .int .i64 (m : Int)] 24)
  have hKN : KN < w.heap.size := hB.lt
  have hws := hb.size
  have HG0 : Hid (∀ W, Below (w.heap.size + 1) (w.alloc (.cells #[.slice (some ⟨b, off, none⟩) len cap, .int .i64 (m : Int)] 24)) W → W.cell? ⟨w.heap.size, 0, none⟩ = some (.slice (some ⟨b, off, none⟩) len cap) ∧ W.cell? ⟨w.heap.size, 1, none⟩ = some (.int .i64 (m : Int)) ∧ Ex KN w W ∧ Below w0.heap.size w0 W ∧ Bx W KN #[.int .i64 0] 79) := fun W h => by
    have n1 : Bx W w.heap.size #[.slice (some ⟨b, off, none⟩) len cap, .int .i64 (m : Int)] 24 := (h.block _ (Nat.lt_succ_self _)).trans (Bx.new w _ _)
    have s1 : (w.alloc (.cells #[.slice (some ⟨b, off, none⟩) len cap, .int .i64 (m : Int)] 24)).heap.size = w.heap.size + 1 := World.size_alloc _ _
    have h2 := b0.trans (h.mono (Nat.le_succ _))
    exact ⟨n1.c2.1, n1.c2.2, Ex.of h2, hb.trans (h2.mono hws), hB.later h2⟩
  have hmk := fun w' : World => run_make_row' (P := Tryz.prog) 75 9 (.string ⟨#[]⟩) 16 underStr infoStr rfl .i64 .i64 len (by omega) (by omega) w'
  have s1 : (w.alloc (.cells #[.slice (some ⟨b, off, none⟩) len cap, .int .i64 (m : Int)] 24)).heap.size = w.heap.size + 1 := World.size_alloc _ _
  have g0 := HG0.out _ (Below.refl _ _)
  obtain ⟨c0, c1, _, _, _⟩ := g0
  clear hN hS hT hq f1 f2 f3 hB b0 hml HSS HNG
  go_enter Tryz.func28, Tryz.ntmps28
  go_upto_region 1 with fail
  generalize w.alloc (.cells #[.slice (some ⟨b, off, none⟩) len cap, .int .i64 (m : Int)] 24) = W1 at HG0 s1 c0 c1 ⊢
  go_upto_region 2 with fail
  have hb2 := below_alloc W1 (.cells (madeCells #[.string ⟨#[]⟩] len) 9)
  have hs2 : (W1.alloc (.cells (madeCells #[.string ⟨#[]⟩] len) 9)).heap.size = w.heap.size + 1 + 1 := by rw [World.size_alloc, s1]
  rw [s1] at hb2
  have g2 := HG0.out _ hb2
  obtain ⟨c0, c1, gx, gb, gn⟩ := g2
  have HA2 : Hid (AnS w0 w (W1.alloc (.cells (madeCells #[.string ⟨#[]⟩] len) 9)) KN (w.heap.size + 1) len 0 (nmJ S 0)) := by
    refine ⟨gn, ?_, gx, gb, h0, hKN, by omega⟩
    have := Bx.new W1 (madeCells #[.string ⟨#[]⟩] len) 9
    rw [s1] at this
    rw [sA_made] at this ⊢
    rw [sA_congr (fun i _ => nmJ_zero S i)]
    exact this
  have hCS := HSh.out _ gb
  clear gx gn hb2 HG0 hmk s1
  generalize W1.alloc (.cells (madeCells #[.string ⟨#[]⟩] len) 9) = W2 at HA2 c0 c1 hCS hs2 ⊢
  obtain ⟨CA, hCA⟩ : ∃ CA, CA = w.heap.size + 1 := ⟨_, rfl⟩
  rw [← hCA] at HA2 hs2 ⊢
  have hCA2 : CA < W2.heap.size := by omega
  have hKN2 : KN < CA := by omega
  have hKN3 : w.heap.size < CA := by omega
  clear hCA
  go_upto_region 3 with (go_at_call 44; refine hCS.mono ?_; rintro e W3 ⟨oa, oc, rfl, H3⟩)
  have HA3 : Hid (AnS w0 w W3 KN CA len 0 (nmJ S 0)) := ans_later HA2.out H3.out.2.2.1
  have HI3 : Hid (∀ j, j < S.length → ∃ ob ooff, oa = some ⟨ob, ooff, none⟩ ∧ ∀ W : World, W3.heap.size ≤ W.heap.size → (∀ g, g < W3.heap.size → g ≠ KN → g ≠ CA → W.heap[g]? = W3.heap[g]?) → W.cell? ⟨ob, ooff + j, none⟩ = some (.int .i64 ((S.getD j 0 : Nat) : Int))) := fun j hj => by
    obtain ⟨ob, ooff, e, hob, hoc⟩ := H3.out.1.2 (by omega)
    refine ⟨ob, ooff, e, fun W _ hW => ?_⟩
    have h5 := H3.out.2.2.2 (by omega) _ e
    simp only at h5
    have h6 := hW ob hob (by omega) (by omega)
    have h7 := (hoc j hj).2
    have h8 : (S.map fun a : Nat => (a : Int)).getD j 0 = ((S.getD j 0 : Nat) : Int) := by
      rw [List.getD_eq_getElem?_getD, List.getElem?_map, List.getD_eq_getElem?_getD, List.getElem?_eq_getElem hj]; rfl
    rw [h8] at h7
    rw [← h7]
    simp only [World.cell?, h6]
  have hSl : S.length ≤ 5000 := H3.out.2.1
  clear c0 c1 HA2 H3 hCS hs2 hCA2 gb HSh
  go_wp2_with fail
  go_loopw [21] (fun i wr => ∃ j : Nat, j ≤ S.length ∧ i = .int .i64 (j : Int) ∧ Hid (AnS w0 w wr KN CA len j (nmJ S j)) ∧ Hid (W3.heap.size ≤ wr.heap.size ∧ ∀ g, g < W3.heap.size → g ≠ KN → g ≠ CA → wr.heap[g]? = W3.heap[g]?)) (fun i _ => S.length - (intOf i).toNat)
  case atStart => exact ⟨0, Nat.zero_le _, rfl, HA3, ⟨Nat.le_refl _, fun _ _ _ _ => rfl⟩⟩
  case round =>
    obtain ⟨j, hj, rfl, HA, HK⟩ := hrel
    clear HA3
    by_cases hlt : j < S.length
    · obtain ⟨ob, ooff, rfl, hoc⟩ := HI3.out j hlt
      have x0 := hoc wr HK.out.1 HK.out.2
      have hal : S.getD j 0 < len := by
        have : S.getD j 0 ∈ S := by rw [List.getD_eq_getElem?_getD, List.getElem?_eq_getElem hlt]; exact List.getElem_mem _
        exact HLo.out _ this
      have HSN : Hid (∀ b, nmJ S (j + 1) b = if b = S.getD j 0 then 97 :: Lib.itoa ((j : Int) + 1) else nmJ S j b) := nmJ_snoc HSn.out hlt
      have HC := HNX.out wr CA j (nmJ S j) (by omega) HA.out
      generalize S.getD j 0 = a at x0 hal HSN
      have hj0 : (0 : Int) ≤ (j : Int) := by omega
      have hj1 : (j : Int) < (S.length : Int) := by omega
      have ha0 : (0 : Int) ≤ (a : Int) := by omega
      have ha1 : (a : Int) < (len : Int) := by omega
      clear hoc
      go_upto_region 7 with (go_at_call 29; refine HC.mono ?_; rintro e W4 ⟨rfl, HA4, HX4⟩; have y0 := (HA4.out.a.cell a).trans (sA_get _ hal); have f0 := HA4.out.a.fz a)
      have HA5 : Hid (AnS w0 w (W4.setCell ⟨CA, a, none⟩ (.string (mk (97 :: Lib.itoa ((j : Int) + 1))))) KN CA len (j + 1) (nmJ S (j + 1))) := by
        have h := ans_name HA4.out a (97 :: Lib.itoa ((j : Int) + 1))
        refine ⟨h.n, ?_, h.ex, h.bl, h.h0, h.h1, h.h2⟩
        rw [sA_congr (fun i _ => HSN.out i)]
        exact h.a
      have HK5 : Hid (W3.heap.size ≤ (W4.setCell ⟨CA, a, none⟩ (.string (mk (97 :: Lib.itoa ((j : Int) + 1))))).heap.size ∧ ∀ g, g < W3.heap.size → g ≠ KN → g ≠ CA → (W4.setCell ⟨CA, a, none⟩ (.string (mk (97 :: Lib.itoa ((j : Int) + 1))))).heap[g]? = W3.heap[g]?) := by
        refine ⟨by have := HX4.out.size; have := HK.out.1; simp [World.setCell]; omega, fun g h1 h2 h3 => ?_⟩
        exact (Below.heap_setCell _ _ _ _ (fun e => h3 (by simpa using e))).trans ((HX4.out.block g (by have := HK.out.1; omega) h2).trans (HK.out.2 g h1 h2 h3))
      generalize W4.setCell ⟨CA, a, none⟩ (.string (mk (97 :: Lib.itoa ((j : Int) + 1)))) = W5 at HA5 HK5 ⊢
      clear HA HK HC HA4 HX4 y0 f0 x0 HSN
      go_wp2_with fail
      go_roundw
      case rel => exact ⟨j + 1, by omega, by go_num, HA5, HK5⟩
      case measure => (simp [intOf] <;> omega)
    · have hje : j = S.length := by omega
      have HF : Hid (AnS w0 w wr KN CA len j NG) := by
        have h := HA.out
        refine ⟨h.n, ?_, h.ex, h.bl, h.h0, h.h1, h.h2⟩
        rw [← sA_congr (fun i _ => HNM.out i), ← hje]
        exact h.a
      clear HA HK hje
      go_wp2_with fail
      go_ret
      exact ⟨CA, j, rfl, HF.out⟩
end Go.Proofs.YtaphijgbebhdlaaGreatDoor.Grp
end
