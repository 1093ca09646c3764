/- Several texts as one: GraphKyV, GraphRuse. -/
import Derived.Test.YtaphijgbebhdlaaGreatDoorV16GraphTop2I
section
/- The keys among the first Kids: plain facts. -/
namespace Go.Proofs.YtaphijgbebhdlaaGreatDoor.Grp
open Utf Rws Pln Flw
open Go.RowKit
set_option linter.unusedSimpArgs false
set_option linter.unusedVariables false
set_option maxRecDepth 100000
set_option maxHeartbeats 4000000

/-- the keys among the first Kids -/
def kyV (k : Int) (l : List Int) (j : Nat) : List Int := ((List.range j).filter fun i => kyP k i).map fun i => l.getD i 0
theorem kys_rng (k : Int) : ∀ (l : List Int) (i : Nat), kys k i l = ((List.range l.length).filter fun j => kyP k (i + j)).map fun j => l.getD j 0
  | [], i => rfl
  | a :: t, i => by
    rw [kys, List.length_cons, List.range_succ_eq_map, List.filter_cons, kys_rng k t (i + 1), List.filter_map, Nat.add_zero]
    have e : ((fun j => kyP k (i + j)) ∘ Nat.succ) = fun j => kyP k (i + 1 + j) := by
      funext j
      simp only [Function.comp, Nat.succ_eq_add_one]
      rw [show i + (j + 1) = i + 1 + j by omega]
    rw [e]
    simp only [Nat.add_zero]
    by_cases h : kyP k i = true
    · rw [if_pos h, if_pos h, List.map_cons, List.map_map]; rfl
    · rw [if_neg h, if_neg h, List.map_map]; rfl
theorem kys_V (k : Int) (l : List Int) : kys k 0 l = kyV k l l.length := by
  rw [kys_rng]
  unfold kyV
  simp only [Nat.zero_add]
theorem kyV_succ (k : Int) (l : List Int) (j : Nat) : kyV k l (j + 1) = if kyP k j = true then kyV k l j ++ [l.getD j 0] else kyV k l j := by
  unfold kyV
  rw [List.range_succ, List.filter_append, List.map_append]
  by_cases h : kyP k j = true
  · rw [if_pos h, List.filter_cons_of_pos h]; rfl
  · rw [if_neg h, List.filter_cons_of_neg h]; simp
theorem kyV_mem {k : Int} {l : List Int} {j : Nat} {a : Int} : a ∈ kyV k l j ↔ ∃ i, i < j ∧ kyP k i = true ∧ l.getD i 0 = a := by
  unfold kyV
  rw [List.mem_map]
  constructor
  · rintro ⟨i, hi, rfl⟩
    rw [List.mem_filter, List.mem_range] at hi
    exact ⟨i, hi.1, hi.2, rfl⟩
  · rintro ⟨i, h1, h2, rfl⟩
    exact ⟨i, List.mem_filter.2 ⟨List.mem_range.2 h1, h2⟩, rfl⟩
theorem kyV_pre (k : Int) (l : List Int) {j n : Nat} (h : j ≤ n) : kyV k l j <+: kyV k l n := by
  obtain ⟨m, rfl⟩ : ∃ m, n = j + m := ⟨n - j, by omega⟩
  unfold kyV
  rw [List.range_add, List.filter_append, List.map_append]
  exact List.prefix_append _ _
end Go.Proofs.YtaphijgbebhdlaaGreatDoor.Grp
end

section
/- The document's uses, of layer 12, by its contract. -/
namespace Go.Proofs.YtaphijgbebhdlaaGreatDoor.Grp
open Utf Rws Pln Flw
open Go.RowKit Go.Shelf
set_option linter.unusedSimpArgs false
set_option linter.unusedVariables false
set_option maxRecDepth 100000
set_option maxHeartbeats 4000000

theorem Tryz.infoBool : (Tryz.prog.info? 4).map (fun i => (i.zero, i.size, i.bytes)) = some (some (.bool false), 1, 1) := by kernel_rfl
theorem Tryz.underBools : Tryz.prog.underlying 54 = some (.slice 4) := by kernel_rfl
def bA (Y : Nat → Bool) (n : Nat) : Array Value := ((List.range n).map fun i => Value.bool (Y i)).toArray
theorem bA_get (Y : Nat → Bool) {n i : Nat} (h : i < n) : (bA Y n)[i]? = some (.bool (Y i)) := by
  simp [bA, h]
def mark (Y : Nat → Bool) (i : Nat) : Nat → Bool := fun x => decide (x = i) || Y x
theorem bA_set (Y : Nat → Bool) (n i : Nat) : (bA Y n).setIfInBounds i (.bool true) = bA (mark Y i) n := by
  apply Array.ext
  · simp [bA]
  · intro j h1 h2
    have hj : j < n := by simpa [bA] using h2
    rw [Array.getElem_setIfInBounds (by simpa [bA] using hj)]
    by_cases e : i = j
    · subst e
      simp [bA, mark]
    · have e2 : ¬ j = i := fun q => e q.symm
      simp [bA, mark, e, e2]
theorem bA_made (n : Nat) : madeCells #[Value.bool false] n = bA (fun _ => false) n := by
  apply Array.ext_getElem?
  intro k
  by_cases hk : k < n
  · rw [bA_get _ hk]
    simp [madeCells, hk, Nat.mod_one]
  · have e2 : (bA (fun _ => false) n)[k]? = none := by simp [bA]; omega
    rw [e2]
    simp [madeCells]
    omega
/-- the boxes and the arrays -/
structure UsS (w W : World) (K0 KM KY len : Nat) (g0 g1 : Value) (T : Nat → Nat) (Y : Nat → Bool) : Prop where
  g : Bx W K0 #[g0, g1] 24
  m : Bx W KM (tA T len) 3
  y : Bx W KY (bA Y len) 4
  bl : Below w.heap.size w W
  hm : w.heap.size ≤ KM
  hy : w.heap.size ≤ KY
  n0 : K0 ≠ KM
  n1 : K0 ≠ KY
  n2 : KM ≠ KY
theorem UsS.later {w W W' : World} {K0 KM KY len : Nat} {g0 g1 : Value} {T : Nat → Nat} {Y : Nat → Bool} (h : UsS w W K0 KM KY len g0 g1 T Y) (hb : Below W.heap.size W W') : UsS w W' K0 KM KY len g0 g1 T Y :=
  ⟨h.g.later hb, h.m.later hb, h.y.later hb, h.bl.trans (hb.mono h.bl.size), h.hm, h.hy, h.n0, h.n1, h.n2⟩
theorem UsS.bump {w W : World} {K0 KM KY len : Nat} {g0 g1 : Value} {T : Nat → Nat} {Y : Nat → Bool} (h : UsS w W K0 KM KY len g0 g1 T Y) (i : Nat) : UsS w (W.setCell ⟨KM, i, none⟩ (.int .i64 ((T i + 1 : Nat) : Int))) K0 KM KY len g0 g1 (Grp.bump T i) Y := by
  refine ⟨h.g.other h.n0 _ _, ?_, h.y.other (fun e => h.n2 e.symm) _ _, h.bl.setCell (p := ⟨KM, i, none⟩) h.hm _, h.hm, h.hy, h.n0, h.n1, h.n2⟩
  have := h.m.set i (.int .i64 ((T i + 1 : Nat) : Int))
  rw [tA_set] at this
  exact this
theorem UsS.mark {w W : World} {K0 KM KY len : Nat} {g0 g1 : Value} {T : Nat → Nat} {Y : Nat → Bool} (h : UsS w W K0 KM KY len g0 g1 T Y) (i : Nat) : UsS w (W.setCell ⟨KY, i, none⟩ (.bool true)) K0 KM KY len g0 g1 T (Grp.mark Y i) := by
  refine ⟨h.g.other h.n1 _ _, h.m.other h.n2 _ _, ?_, h.bl.setCell (p := ⟨KY, i, none⟩) h.hy _, h.hm, h.hy, h.n0, h.n1, h.n2⟩
  have := h.y.set i (.bool true)
  rw [bA_set] at this
  exact this
theorem us_start (w : World) (c : Array Value) (g0 g1 : Value) (len : Nat) (hc : c = #[g0, g1]) : UsS w (((w.alloc (.cells c 24)).alloc (.cells (madeCells #[Value.int .i64 0] len) 3)).alloc (.cells (madeCells #[Value.bool false] len) 4)) w.heap.size (w.heap.size + 1) (w.heap.size + 1 + 1) len g0 g1 (fun _ => 0) (fun _ => false) := by
  subst hc
  rw [tA_made, bA_made]
  have b1 := below_alloc w (.cells #[g0, g1] 24)
  have n1 := Bx.new w #[g0, g1] 24
  have s1 : (w.alloc (.cells #[g0, g1] 24)).heap.size = w.heap.size + 1 := World.size_alloc _ _
  generalize w.alloc (.cells #[g0, g1] 24) = w1 at *
  have b2 := below_alloc w1 (.cells (tA (fun _ => 0) len) 3)
  have n2 := Bx.new w1 (tA (fun _ => 0) len) 3
  have s2 : (w1.alloc (.cells (tA (fun _ => 0) len) 3)).heap.size = w1.heap.size + 1 := World.size_alloc _ _
  rw [s1] at n2 s2
  generalize w1.alloc (.cells (tA (fun _ => 0) len) 3) = w2 at *
  have b3 := below_alloc w2 (.cells (bA (fun _ => false) len) 4)
  have n3 := Bx.new w2 (bA (fun _ => false) len) 4
  rw [s2] at n3
  exact ⟨(n1.later b2).later b3, n2.later b3, n3, (b1.trans (b2.mono b1.size)).trans (b3.mono (by omega)), by omega, by omega, by omega, by omega, by omega⟩
def UsRes (w : World) (len : Nat) (ns : List Nd) (e : Ending) (w' : World) : Prop := ∃ (KM KY : Nat) (Y : Nat → Bool), e = .returned (.tuple #[.slice (some ⟨KM, 0, none⟩) len len, .slice (some ⟨KY, 0, none⟩) len len]) ∧ Hid (Bx w' KM (tA (timN (fun _ => 0) ns) len) 3) ∧ Hid (Bx w' KY (bA Y len) 4) ∧ Hid (∀ x, x < len → (Y x = true ↔ isKy ns (x : Int) = true)) ∧ Hid (Below w.heap.size w w')
theorem uses_any {w : World} {ad : Option Addr} {len cap : Nat} {r : Int} {ns : List Nd} (hlen : len ≤ 4096) (hN : NAt w ad len ns) (hks : ∀ n ∈ ns, ∀ a ∈ n.kids, isP len a = true) (hsum : sumK ns ≤ 1000000000) :
    Calls Tryz.prog 54 #[gv ad len cap r] w (UsRes w len ns) := by
  have HN : Hid (NAt w ad len ns) := hN
  have HLn : Hid (len = ns.length) := hN.1
  have HKS : Hid (∀ n ∈ ns, ∀ a ∈ n.kids, isP len a = true) := hks
  have HSU : Hid (sumK ns ≤ 1000000000) := hsum
  clear hN hks hsum
  have hmk := fun w' : World => run_make_row' (P := Tryz.prog) 45 3 (.int .i64 0) 8 Tryz.underInts Tryz.infoInt rfl .i64 .i64 len (by omega) (by omega) w'
  have hmk2 := fun w' : World => run_make_row' (P := Tryz.prog) 54 4 (.bool false) 1 Tryz.underBools Tryz.infoBool rfl .i64 .i64 len (by omega) (by omega) w'
  have h1 := us_start w _ (.slice ad len cap) (.int .i64 r) len rfl
  go_enter Tryz.func54, Tryz.ntmps54
  go_wp2_with fail
  clear hmk hmk2
  generalize ((w.alloc (.cells #[.slice ad len cap, .int .i64 r] 24)).alloc (.cells (madeCells #[Value.int .i64 0] len) 3)).alloc (.cells (madeCells #[Value.bool false] len) 4) = W0 at h1 ⊢
  generalize w.heap.size + 1 + 1 = KY at h1 ⊢
  generalize w.heap.size + 1 = KM at h1 ⊢
  obtain ⟨K0, hK0⟩ : ∃ K0, K0 = w.heap.size := ⟨_, rfl⟩
  rw [← hK0] at h1 ⊢
  clear hK0
  have H1 : Hid (UsS w W0 K0 KM KY len (.slice ad len cap) (.int .i64 r) (fun _ => 0) (fun _ => false)) := h1
  clear h1
  go_loopw [6] (fun i wr => ∃ (j : Nat) (T : Nat → Nat) (Y : Nat → Bool), j ≤ len ∧ i = .int .i64 j ∧ Hid (UsS w wr K0 KM KY len (.slice ad len cap) (.int .i64 r) T Y) ∧ Hid (T = timN (fun _ => 0) (ns.take j)) ∧ Hid (∀ x, x < len → (Y x = true ↔ isKy (ns.take j) (x : Int) = true))) (fun i _ => len - (intOf i).toNat)
  case atStart => exact ⟨0, _, _, Nat.zero_le _, rfl, H1, rfl, fun x _ => by simp [isKy]⟩
  case round =>
    obtain ⟨j, T, Y, hj, rfl, HS, HT, HY⟩ := hrel
    clear H1
    obtain ⟨c0, c1⟩ := HS.out.g.c2
    by_cases hlt : j < len
    · have hjl : j < ns.length := by have := HLn.out; omega
      obtain ⟨b, off, rfl, hb, hc⟩ := HN.out.2 (by omega)
      obtain ⟨kad, klen, kcap, hk1, hk2, _, _, hI, y0, y1, y2⟩ := hc j hlt
      have HKI : Hid (∀ a ∈ (ns.getD j nd0).kids, isP len a = true) := HKS.out _ (mem_getD hjl)
      have HTN := timN_snoc (fun _ => 0) ns j hjl
      rw [← HT.out] at HTN
      have HT2 : Hid (timN (fun _ => 0) (ns.take (j + 1)) = bmps T (ns.getD j nd0).kids) := HTN
      have HIK : Hid (∀ x : Int, isKy (ns.take (j + 1)) x = true ↔ isKy (ns.take j) x = true ∨ x ∈ kys (ns.getD j nd0).kind 0 (ns.getD j nd0).kids) := fun x => by
        rw [isKy_iff, isKy_iff, List.take_succ_eq_append_getElem hjl]
        have e : ns[j] = ns.getD j nd0 := by rw [List.getD_eq_getElem?_getD, List.getElem?_eq_getElem hjl]; rfl
        rw [e]
        constructor
        · rintro ⟨n, hn, h⟩
          rcases List.mem_append.1 hn with hn | hn
          · exact .inl ⟨n, hn, h⟩
          · rw [List.mem_singleton.1 hn] at h; exact .inr h
        · rintro (⟨n, hn, h⟩ | h)
          · exact ⟨n, List.mem_append_left _ hn, h⟩
          · exact ⟨_, List.mem_append_right _ (List.mem_singleton.2 rfl), h⟩
      have HB : Hid (∀ x, T x + (ns.getD j nd0).kids.length ≤ 1000000001) := fun x => by
        have h1 := timN_le (ns.take j) (fun _ => 0) x
        have h3 := sumK_at ns j hjl
        rw [← HT.out] at h1
        have := HSU.out
        omega
      clear HTN hjl
      generalize ns.getD j nd0 = nd at *
      obtain ⟨nk, nx, nl⟩ := nd
      simp only at y0 y1 y2 HT2 hI HKI HB HIK
      have x0 := (HS.out.bl.cell (p := ⟨b, off + j * 3, none⟩) hb).trans y0
      have x1 := (HS.out.bl.cell (p := ⟨b, off + j * 3 + 1, none⟩) hb).trans y1
      have x2 := (HS.out.bl.cell (p := ⟨b, off + j * 3 + 2, none⟩) hb).trans y2
      have HI : Hid (IAt w kad klen nl) := hI
      have HLk : Hid (klen = nl.length) := hI.1
      have hkl : klen ≤ 1000000001 := by have h1 := HB.out 0; have h2 := HLk.out; omega
      have HS1 : Hid (UsS w (wr.alloc (.cells #[.int .i64 nk, .string (mk nx), .slice kad klen kcap] 47)) K0 KM KY len (.slice (some ⟨b, off, none⟩) len cap) (.int .i64 r) T Y) := HS.out.later (below_alloc _ _)
      have HN1 : Hid (Bx (wr.alloc (.cells #[.int .i64 nk, .string (mk nx), .slice kad klen kcap] 47)) wr.heap.size #[.int .i64 nk, .string (mk nx), .slice kad klen kcap] 47) := Bx.new _ _ _
      have hKM := HS.out.m.lt
      have hKY := HS.out.y.lt
      clear hc y0 y1 y2 hI hk1 hk2 HT
      go_wp2_with fail
      clear x0 x1 x2 c0 c1
      generalize wr.alloc (.cells #[.int .i64 nk, .string (mk nx), .slice kad klen kcap] 47) = W1 at HS1 HN1 ⊢
      obtain ⟨K7, hK7⟩ : ∃ K7, K7 = wr.heap.size := ⟨_, rfl⟩
      rw [← hK7] at HN1 hKM hKY ⊢
      have HK7 : Hid (K7 ≠ KM ∧ K7 ≠ KY) := by show _ ∧ _; omega
      clear hK7 HS hKM hKY
      go_loopw [8] (fun i wr => ∃ (kk : Nat) (T' : Nat → Nat) (Y' : Nat → Bool), kk ≤ klen ∧ i = .int .i64 kk ∧ Hid (UsS w wr K0 KM KY len (.slice (some ⟨b, off, none⟩) len cap) (.int .i64 r) T' Y') ∧ Hid (Bx wr K7 #[.int .i64 nk, .string (mk nx), .slice kad klen kcap] 47) ∧ Hid (T' = bmps T (nl.take kk)) ∧ Hid (∀ x, x < len → (Y' x = true ↔ Y x = true ∨ (x : Int) ∈ kyV nk nl kk))) (fun i _ => klen - (intOf i).toNat)
      case atStart => exact ⟨0, T, Y, Nat.zero_le _, rfl, HS1, HN1, rfl, fun x _ => by simp [kyV]⟩
      case round =>
        obtain ⟨kk, T', Y', hkk, rfl, HS2, HN2, HT3, HY3⟩ := hrel
        clear HS1 HN1
        obtain ⟨n0, n1, n2⟩ := HN2.out.c3
        by_cases hkt : kk < klen
        · have hkn : kk < nl.length := by have := HLk.out; omega
          obtain ⟨kb, koff, rfl, hkb, hkc⟩ := HI.out.2 (by omega)
          have x0 := (HS2.out.bl.cell (p := ⟨kb, koff + kk, none⟩) hkb).trans (hkc kk hkt).2
          obtain ⟨p, hp, hpl⟩ := isP_nat (HKI.out _ (mem_getI hkn))
          rw [hp] at x0
          have HPK : Hid (nl.getD kk 0 = (p : Int)) := hp
          have HX9 : Hid (w.cell? ⟨kb, koff + kk, none⟩ = some (.int .i64 (p : Int))) := by
            have := (hkc kk hkt).2
            rw [hp] at this
            exact this
          clear hp hkc
          have m0 := (HS2.out.m.cell p).trans (tA_get T' hpl)
          have z0 := HS2.out.m.fz p
          have hTb : T' p ≤ 1000000001 := by
            have h1 := bmps_le (nl.take kk) T p
            have h2 := HB.out p
            rw [← HT3.out] at h1
            rw [List.length_take] at h1
            omega
          have HT4 : Hid (bump T' p = bmps T (nl.take (kk + 1))) := by
            show _ = _
            rw [bmps_snoc T nl kk hkn, ← HT3.out, HPK.out, Int.toNat_natCast]
          have HS3 : Hid (UsS w (wr.setCell ⟨KM, p, none⟩ (.int .i64 ((T' p : Int) + 1))) K0 KM KY len (.slice (some ⟨b, off, none⟩) len cap) (.int .i64 r) (bump T' p) Y') := HS2.out.bump p
          have HN3 : Hid (Bx (wr.setCell ⟨KM, p, none⟩ (.int .i64 ((T' p : Int) + 1))) K7 #[.int .i64 nk, .string (mk nx), .slice (some ⟨kb, koff, none⟩) klen kcap] 47) := HN2.out.other HK7.out.1 _ _
          have HSK : Hid (∀ x, x < len → (Y' x = true ∨ (kyP nk kk = true ∧ x = p) ↔ Y x = true ∨ (x : Int) ∈ kyV nk nl (kk + 1))) := fun x hx => by
            rw [HY3.out x hx, kyV_succ]
            by_cases hky : kyP nk kk = true
            · rw [if_pos hky, List.mem_append, List.mem_singleton, HPK.out]
              constructor
              · rintro ((h | h) | ⟨_, h⟩)
                · exact .inl h
                · exact .inr (.inl h)
                · exact .inr (.inr (by rw [h]))
              · rintro (h | h | h)
                · exact .inl (.inl h)
                · exact .inl (.inr h)
                · exact .inr ⟨hky, by omega⟩
            · rw [if_neg hky]
              constructor
              · rintro (h | ⟨h, _⟩)
                · exact h
                · exact absurd h hky
              · exact fun h => .inl h
          have hw : (kyP nk kk = true ∧ (nk == 6) = true ∧ ((kk : Int) % 2 == 0) = true) ∨ (kyP nk kk = false ∧ (nk == 6) = false) ∨ (kyP nk kk = false ∧ (nk == 6) = true ∧ ((kk : Int) % 2 == 0) = false) := by
            unfold kyP
            by_cases h1 : nk = 6
            · have h1' : (nk == 6) = true := by simpa using h1
              by_cases h2 : kk % 2 = 0
              · exact .inl ⟨by rw [decide_eq_true h1, decide_eq_true h2]; rfl, h1', by rw [beq_iff_eq]; omega⟩
              · exact .inr (.inr ⟨by rw [decide_eq_false h2, Bool.and_false], h1', by rw [beq_eq_false_iff_ne]; omega⟩)
            · exact .inr (.inl ⟨by rw [decide_eq_false h1]; rfl, by simpa using h1⟩)
          clear HT3 hkn HY3 HS2 HN2
          generalize T' p = tp at *
          go_upto_region 11 with fail
          clear x0 m0 z0 n0 n1 n2
          have x9 := (HS3.out.bl.cell (p := ⟨kb, koff + kk, none⟩) hkb).trans HX9.out
          generalize wr.setCell ⟨KM, p, none⟩ (.int .i64 ((tp : Int) + 1)) = W4 at HS3 HN3 x9 ⊢
          obtain ⟨n0, n1, n2⟩ := HN3.out.c3
          rcases hw with ⟨hw0, hw1, hw2⟩ | ⟨hw0, hw1⟩ | ⟨hw0, hw1, hw2⟩
          · have q0 := (HS3.out.y.cell p).trans (bA_get Y' hpl)
            have z9 := HS3.out.y.fz p
            have HS4 : Hid (UsS w (W4.setCell ⟨KY, p, none⟩ (.bool true)) K0 KM KY len (.slice (some ⟨b, off, none⟩) len cap) (.int .i64 r) (bump T' p) (mark Y' p)) := HS3.out.mark p
            have HN4 : Hid (Bx (W4.setCell ⟨KY, p, none⟩ (.bool true)) K7 #[.int .i64 nk, .string (mk nx), .slice (some ⟨kb, koff, none⟩) klen kcap] 47) := HN3.out.other HK7.out.2 _ _
            have HY4 : Hid (∀ x, x < len → (mark Y' p x = true ↔ Y x = true ∨ (x : Int) ∈ kyV nk nl (kk + 1))) := fun x hx => by
              rw [← HSK.out x hx]
              unfold mark
              rw [Bool.or_eq_true, decide_eq_true_iff]
              constructor
              · rintro (h | h)
                · exact .inr ⟨hw0, h⟩
                · exact .inl h
              · rintro (h | ⟨_, h⟩)
                · exact .inr h
                · exact .inl h
            clear HSK hw0 HS3 HN3
            generalize Y' p = yp at q0
            go_wp2
            go_roundw
            case rel => exact ⟨kk + 1, _, _, by omega, by go_num, HS4, HN4, HT4.out, HY4⟩
            case measure => (simp [intOf] <;> omega)
          all_goals
            have HY4 : Hid (∀ x, x < len → (Y' x = true ↔ Y x = true ∨ (x : Int) ∈ kyV nk nl (kk + 1))) := fun x hx => by
              rw [← HSK.out x hx]
              constructor
              · exact fun h => .inl h
              · rintro (h | ⟨h, _⟩)
                · exact h
                · rw [hw0] at h; cases h
            clear HSK hw0
            go_wp2
            go_roundw
            case rel => exact ⟨kk + 1, _, Y', by omega, by go_num, HS3, HN3, HT4.out, HY4⟩
            case measure => (simp [intOf] <;> omega)
        · have HT5 : Hid (T' = timN (fun _ => 0) (ns.take (j + 1))) := by
            show _ = _
            rw [HT3.out, HT2.out, List.take_of_length_le (by have := HLk.out; omega)]
          have HY5 : Hid (∀ x, x < len → (Y' x = true ↔ isKy (ns.take (j + 1)) (x : Int) = true)) := fun x hx => by
            rw [HY3.out x hx, HIK.out, HY.out x hx, kys_V, show nl.length = kk by have := HLk.out; omega]
          clear HT3 HY3
          go_wp2
          go_roundw
          case rel => exact ⟨j + 1, T', Y', by omega, by go_num, HS2, HT5, HY5⟩
          case measure => (simp [intOf] <;> omega)
    · have HTE : Hid (T = timN (fun _ => 0) ns) := by
        show _ = _
        rw [HT.out, List.take_of_length_le (by have := HLn.out; omega)]
      have HYE : Hid (∀ x, x < len → (Y x = true ↔ isKy ns (x : Int) = true)) := fun x hx => by
        rw [HY.out x hx, List.take_of_length_le (by have := HLn.out; omega)]
      clear HT HY
      go_wp2
      go_ret2
      exact ⟨KM, KY, Y, rfl, by rw [← HTE.out]; exact HS.out.m, HS.out.y, HYE, HS.out.bl⟩
end Go.Proofs.YtaphijgbebhdlaaGreatDoor.Grp
end
