/- Several texts as one: GraphRad2. -/
import Derived.Test.YtaphijgbebhdlaaGreatDoorV43GraphRmk
section
/- The document's maker: add, the walk. -/
namespace Go.Proofs.YtaphijgbebhdlaaGreatDoor.Grp
open Utf Rws Pln Flw
open Go.RowKit Go.Maps
set_option linter.unusedSimpArgs false
set_option linter.unusedVariables false
set_option maxRecDepth 100000
set_option maxHeartbeats 4000000

theorem wp_thenQ {α : Type} {P : Program} {cd : Code} {Q : Exit → Go.Act → World → Prop} {a : Go.Act} {w : World} (F : α → Go.Act) (I : α → World → Prop) (h1 : Hid (∀ p w', I p w' → Q .normal (F p) w') → cd.wp P Q a w) (h2 : ∀ p w', I p w' → Q .normal (F p) w') : cd.wp P Q a w := h1 h2
theorem step_app {P : Program} {ops : Array Oper} {o : Oper} {a : Act} {w : World} {K : Act → World → Prop} {Q : Exit → Act → World → Prop} {E : Prop}
    (hg : o.guard = none) (s x : Operand) (t : TypeId) (hop : o.op = Op.call { callee := Callee.builtin Builtin.append, args := #[s, x], argTypes := #[t, t] }) (base : Nat)
    (e : TypeId) (i : TypeInfo) (z : Value) (size bytes : Nat) (h1 : P.underlying t = some (.slice e)) (h2 : P.info? e = some i) (h3 : i.zero = some z) (h4 : i.size = size) (h5 : i.bytes = bytes) (h6 : z.cells.size = size) (h7 : 0 < size)
    (v : Value) (n : Nat) (xs : List Value) (hs : a.eval s = v) (hown : w.ownsRow base e size v n xs)
    (ad : Addr) (m c : Nat) (news : List Value) (hx : a.eval x = .slice (some ad) m c) (hn : news.length = m * size) (hc : ∀ j u, news[j]? = some u → w.cell? (ad.add j) = some u) (h1c : ∀ u ∈ news, u.oneCell' = true)
    (b1 : n + m ≤ maxLen) (b2 : (n + m) * bytes ≤ 140737488355328) (hbase : base ≤ w.heap.size)
    (hK : ∀ v' w', w'.ownsRow base e size v' (n + m) (xs ++ news) → w.grownBy w' v.ownBlock → (v'.ownBlock = v.ownBlock ∨ v'.ownBlock = some w.heap.size) → K (a.put o.dst v') w') :
    if Region.wanted o (yielded ops a.tmps) = true then Oper.wp P o a w K Q else E := by
  have hw : Region.wanted o (yielded ops a.tmps) = true := by simp [Region.wanted, hg]
  rw [if_pos hw]
  obtain ⟨v', w', hrun, r1, r2, _, r4⟩ := run_append_own_at (P := P) w base t o.type e i z size bytes h1 h2 h3 h4 h5 h6 h7 v n xs hown ad m c news hn hc h1c b1 b2 hbase
  unfold Oper.wp
  simp [execOp, hop, resolve, invoke, builtin, hs, hx, hrun, Result.andThen]
  exact hK v' w' r1 r2 r4
theorem cell_two (w : World) (a b : Value) (t : TypeId) : ∀ j u, [a, b][j]? = some u → (w.alloc (.cells #[a, b] t)).cell? ((⟨w.heap.size, 0, none⟩ : Addr).add j) = some u := by
  intro j u hj
  have e : (⟨w.heap.size, 0, none⟩ : Addr).add j = ⟨w.heap.size, j, none⟩ := by simp [Addr.add]; intro h; exact h.symm
  rw [e, World.cell?_alloc_new]
  match j, hj with
  | 0, hj => simpa using hj
  | 1, hj => simpa using hj
theorem infoAnc : (Tryz.prog.info? 119).map (fun i => (i.zero, i.size, i.bytes)) = some (some (.agg #[.string ⟨#[]⟩, .int .i64 0]), 2, 24) := by kernel_rfl
theorem nb_new (l : List (Nd × Value)) (n : Nd) (W : World) : NB l (l ++ [(n, .slice none 0 0)]) W := fun p hp => by
  rcases List.mem_append.1 hp with h | h
  · exact .inl h
  · rw [List.mem_singleton.1 h]
    exact .inr fun b hb => by obtain ⟨off, len', cap', h2, h3⟩ := hb; cases h2
theorem pls_e {f : Tr → Cs → Nat × Nat × Cs} (hf : ∀ t s, (f t s).2.1 ≤ 11) (k : Int) : ∀ (ts : List Tr) (i : Nat) (ks : List (Int × Ln)) (ps : List Nat) (s : Cs), (pls f k i ts ks ps s).2.1 ≤ 11
  | [], i, ks, ps, s => Nat.zero_le _
  | t :: ts, i, ks, ps, s => by
    rw [pls]
    split
    · show 7 ≤ 11; decide
    · split
      · exact pls_e hf k ts _ _ _ _
      · exact hf t s
theorem plc_e : ∀ (d : Nat) (t : Tr) (s : Cs), (plc d t s).2.1 ≤ 11
  | 0, t, s => Nat.zero_le _
  | d + 1, t, s => by
    rw [plc]
    split
    · split
      · exact Nat.zero_le _
      · exact Nat.le_refl _
    · exact pls_e (plc_e d) t.kind t.kids 0 [] [] (put1 t s)
/-- an Alias -/
theorem add_alias {w0 W : World} {K : Nat} {x a : Ln} {ad : Option Addr} {len cap : Nat} {nv lv : Value} {l : List (Nd × Value)} {an : List (Ln × Nat)} {ks : List Tr} {d tz : Nat} (ha : a.length ≤ 9223372036854775807) (hM : MkS w0 W K nv lv l an 0) :
    Calls Tryz.prog 38 #[.pointer (some ⟨K, 0, none⟩), tv 7 x a ad len cap] W (AdRes w0 K nv lv l W (plc (d + 1) ⟨7, x, a, ks⟩ ⟨l.map (·.1), an⟩) tz) := by
  have b1 := below_alloc W (.cells #[.int .i64 7, .string (mk x), .string (mk a), .slice ad len cap] 29)
  have hM1 := mks_later hM b1
  have HF := find_any hM1 ha
  have n1 := Bx.new W #[.int .i64 7, .string (mk x), .string (mk a), .slice ad len cap] 29
  cases hl : look an a with
  | none =>
    have HR : Hid (plc (d + 1) ⟨7, x, a, ks⟩ ⟨l.map (·.1), an⟩ = (0, 11, ⟨l.map (·.1), an⟩)) := by
      show _ = _
      rw [plc, if_pos rfl]
      simp only [hl]
    rw [HR.out]
    have hf : fnd an a = -1 := by unfold fnd; rw [hl]
    rw [hf] at HF
    have HF2 : Hid (Calls Tryz.prog 59 _ _ _) := HF
    obtain ⟨q1, q2⟩ := mks_err hM1 11
    have HQ : Hid (_ ∧ _) := And.intro q1 ((Cm2.of_below b1).trans (OB.refl _ _) (OB.refl _ _) q2)
    obtain ⟨c0, c1, c2, c3⟩ := hM1.bx.c4
    have z3 := hM1.bx.fz 3
    clear HF hf q1 q2 hM hl
    go_enter Tryz.func38, Tryz.ntmps38
    go_upto_region 3 with (go_at_call 59; refine HF2.out.mono ?_; rintro e w2 ⟨rfl, rfl⟩)
    generalize W.alloc (.cells #[.int .i64 7, .string (mk x), .string (mk a), .slice ad len cap] 29) = A at *
    go_wp2
    go_ret
    exact ⟨-1, nv, lv, l, an, rfl, ⟨by decide, by decide⟩, HQ.out.1, fun h => absurd h (by simp), Nat.le_refl _, Nat.le_add_right _ _, fun _ _ => rfl, HQ.out.2, OB.refl _ _, OB.refl _ _, NB.refl _ _⟩
  | some q =>
    have HR : Hid (plc (d + 1) ⟨7, x, a, ks⟩ ⟨l.map (·.1), an⟩ = (q, 0, ⟨l.map (·.1), an⟩)) := by
      show _ = _
      rw [plc, if_pos rfl]
      simp only [hl]
    rw [HR.out]
    have hf : fnd an a = (q : Int) := by unfold fnd; rw [hl]
    rw [hf] at HF
    have HF2 : Hid (Calls Tryz.prog 59 _ _ _) := HF
    obtain ⟨p, hp1, hp2⟩ := look_le an a q hl
    have hq : q ≤ 1000000 := by have := hM.ha p hp1; omega
    have HM1 : Hid (_ ∧ _) := And.intro hM1 (Cm2.of_below (K := K) (nv := nv) (lv := lv) b1)
    clear HF hf hM hl hp1 hp2
    go_enter Tryz.func38, Tryz.ntmps38
    go_upto_region 3 with (go_at_call 59; refine HF2.out.mono ?_; rintro e w2 ⟨rfl, rfl⟩)
    generalize W.alloc (.cells #[.int .i64 7, .string (mk x), .string (mk a), .slice ad len cap] 29) = A at *
    go_wp2
    go_ret
    exact ⟨(q : Int), nv, lv, l, an, rfl, ⟨by omega, by omega⟩, HM1.out.1, fun _ => ⟨rfl, rfl, rfl⟩, Nat.le_refl _, Nat.le_add_right _ _, fun _ _ => rfl, HM1.out.2, OB.refl _ _, OB.refl _ _, NB.refl _ _⟩
theorem add_core {w0 W : World} {K d : Nat} {k : Int} {x a : Ln} {ad : Option Addr} {len cap : Nat} {ks : List Tr} {nv lv : Value} {l : List (Nd × Value)} {an : List (Ln × Nat)} (hcap : len ≤ 9223372036854775807) (hk : i64 k) (hx : x.length ≤ 9223372036854775807) (ha : a.length ≤ 9223372036854775807) (HKA : Hid (KAt w0 d ad len ks)) (HP : Hid (AdOk w0 K d)) (hM : MkS w0 W K nv lv l an 0) (hz : l.length + tsz (d + 1) ⟨k, x, a, ks⟩ ≤ 1000000) :
    Calls Tryz.prog 38 #[.pointer (some ⟨K, 0, none⟩), tv k x a ad len cap] W (AdRes w0 K nv lv l W (plc (d + 1) ⟨k, x, a, ks⟩ ⟨l.map (·.1), an⟩) (tsz (d + 1) ⟨k, x, a, ks⟩)) := by
  by_cases h7 : k = 7
  · subst h7
    exact add_alias ha hM
  have h7' : (k == 7) = false := by simpa using h7
  have b1 := below_alloc W (.cells #[.int .i64 k, .string (mk x), .string (mk a), .slice ad len cap] 29)
  have n1 := Bx.new W #[.int .i64 k, .string (mk x), .string (mk a), .slice ad len cap] 29
  have hM1 := mks_later hM b1
  have hno : ∀ g, W.heap.size ≤ g → some g ≠ nv.ownBlock ∧ some g ≠ lv.ownBlock := fun g hg => ⟨fun e => by have := (own_block hM.ow e.symm).2; omega, fun e => by have := (own_block hM.ol e.symm).2; omega⟩
  have m0 : MaS w0 W (W.alloc (.cells #[.int .i64 k, .string (mk x), .string (mk a), .slice ad len cap] 29)) K W.heap.size #[.int .i64 k, .string (mk x), .string (mk a), .slice ad len cap] nv lv nv lv (.slice none 0 0) l l an 0 [] :=
    ⟨hM1, n1, World.ownsRow_nil _ _ _ _, Cm2.of_below b1, OB.refl _ _, OB.refl _ _, NB.refl _ _, hno _ (Nat.le_refl _), fun g hg => (by cases hg), Nat.le_refl _, hM.bx.lt, fun a ha => absurd ha (by simp)⟩
  obtain ⟨R, HR⟩ : ∃ R, Hid (R = pls (plc d) k 0 ks [] [] (put1 ⟨k, x, a, ks⟩ ⟨l.map (·.1), an⟩)) := ⟨_, rfl⟩
  have HR1 : Hid (plc (d + 1) ⟨k, x, a, ks⟩ ⟨l.map (·.1), an⟩ = setK l.length ⟨k, x, a, ks⟩ R) := by
    show _ = _
    rw [plc, if_neg h7, HR.out, List.length_map]
  rw [HR1.out]
  have hts : tsz (d + 1) ⟨k, x, a, ks⟩ = 1 + (ks.map (tsz d)).sum := rfl
  rw [hts] at hz ⊢
  have hll : l.length ≤ 1000000 := by omega
  have hal : an.length ≤ 1000000 := by have := hM.hl; omega
  have HAL : Hid (an.length ≤ l.length) := hM.hl
  obtain ⟨na, nc, hnv, hn1, hn2⟩ := own_shapeN hM.ow
  obtain ⟨la, lc, hlv, hl1, hl2⟩ := own_shapeN hM.ol
  have HZ : Hid (l.length + (1 + (ks.map (tsz d)).sum) ≤ 1000000) := hz
  clear hz hts hM hM1 b1 n1 hno
  go_enter Tryz.func38, Tryz.ntmps38
  go_upto_region 1 with fail
  generalize W.alloc (.cells #[.int .i64 k, .string (mk x), .string (mk a), .slice ad len cap] 29) = A at m0 ⊢
  obtain ⟨KB, hKB⟩ : ∃ KB, KB = W.heap.size := ⟨_, rfl⟩
  rw [← hKB] at m0 ⊢
  have HKB : Hid (KB = W.heap.size) := hKB
  clear hKB
  subst hnv hlv
  obtain ⟨c0, c1, c2, c3⟩ := m0.ms.bx.c4
  obtain ⟨d0, d1, d2, d3⟩ := m0.tb.c4
  go_upto_region 7 with fail
  obtain ⟨i0, hi, hz0, hz1, hz2⟩ := info_parts Tryz.infoNode
  have hKA := m0.ms.bx.lt
  have hKBA := m0.tb.lt
  have HM0 : Hid (MaS w0 W A K KB #[.int .i64 k, .string (mk x), .string (mk a), .slice ad len cap] (.slice na l.length nc) (.slice la an.length lc) (.slice na l.length nc) (.slice la an.length lc) (.slice none 0 0) l l an 0 []) := m0
  have hML : maxLen = 9223372036854775807 := rfl
  clear m0
  refine wp_thenQ (fun (p : Option Addr × Nat) => ({ tmps := #[.pointer (some ⟨K, 0, none⟩), tv k x a ad len cap, undef, .pointer (some ⟨KB, 0, none⟩), .int .i64 0, undef, .int .i64 (l.length : Int), undef, undef, undef, .pointer (some ⟨KB, 0, none⟩), .int .i64 k, .bool false, undef, undef, undef, undef, undef, undef, undef, undef, undef, undef, undef, undef, undef, undef, undef, undef, undef, .pointer (some ⟨K, 0, none⟩), .pointer (some ⟨K, 0, none⟩), .pointer (some ⟨K, 0, none⟩), .pointer (some ⟨K, 0, none⟩), .slice na l.length nc, .int .i64 (l.length : Int), .pointer (some ⟨K, 0, none⟩), .pointer (some ⟨K, 0, none⟩), .pointer (some ⟨K, 0, none⟩), .pointer (some ⟨K, 0, none⟩), .pointer (some ⟨K, 0, none⟩), .slice na l.length nc, .pointer (some ⟨KB, 0, none⟩), .int .i64 k, .pointer (some ⟨KB, 1, none⟩), .string (mk x), .agg #[.int .i64 k, .string (mk x), .slice none 0 0], .slice (some ⟨A.heap.size, 0, none⟩) 1 1, .slice p.1 (l.length + 1) p.2, .pointer (some ⟨K, 0, none⟩), .pointer (some ⟨K, 0, none⟩), .pointer (some ⟨K, 0, none⟩), undef, undef, undef, undef, undef, undef, undef, undef, undef, undef, undef, undef, undef, undef, undef, undef, undef, undef, undef, undef, undef, undef, undef, undef, undef, undef, undef, undef, undef, undef, undef, undef, undef, undef, undef, undef, undef, undef, undef, undef, undef, undef, undef, undef, undef, undef, undef, undef, undef, undef, undef, undef, undef, undef, undef, undef, undef, undef, undef, undef, undef, undef, undef, undef, undef, undef, undef, undef, undef, undef, undef, undef, undef, undef, undef, undef, undef, undef, undef, undef, undef, undef, undef, undef, undef, undef, undef, undef, undef, undef, undef, undef, undef, undef, undef, undef, undef], defers := [] } : Go.Act)) (fun p w' => Hid (MaS w0 W w' K KB #[.int .i64 k, .string (mk x), .string (mk a), .slice ad len cap] (.slice na l.length nc) (.slice la an.length lc) (.slice p.1 (l.length + 1) p.2) (.slice la an.length lc) (.slice none 0 0) l (l ++ [((⟨k, x, []⟩ : Nd), Value.slice none 0 0)]) an 0 [])) ?H1 ?H2
  case H1 =>
    intro HQ
    go_region_law (refine step_app rfl (.tmp 41) (.tmp 47) 22 rfl (K + 1) 47 i0 (.agg #[.int .i64 0, .string ⟨#[]⟩, .slice none 0 0]) 3 48 Tryz.underNodes hi hz0 hz1 hz2 rfl (by decide) (.slice na l.length nc) l.length (ncs l) (by simp [Act.eval, Act.put]) ((show A.drew.ownsRow (K + 1) 47 3 (.slice na l.length nc) l.length (ncs l) from HM0.out.ms.ow).alloc _) ⟨A.heap.size, 0, none⟩ 1 1 [.int .i64 k, .string (mk x), .slice none 0 0] (by simp [Act.eval, Act.put]) rfl (cell_three _ _ _ _ _) (fun u hu => by simp only [List.mem_cons, List.not_mem_nil, or_false] at hu; rcases hu with rfl | rfl | rfl <;> rfl) (by omega) (by omega) (by have e9 : (A.alloc (.cells #[.int .i64 k, .string (mk x), .slice none 0 0] 47)).heap.size = A.heap.size + 1 := World.size_alloc _ _; show K + 1 ≤ (A.alloc (.cells #[.int .i64 k, .string (mk x), .slice none 0 0] 47)).heap.size; omega) ?_; intro ev eW r1 r2 r3; obtain ⟨ea, ec, rfl, _, _⟩ := own_shapeN r1; have hbE : Bx eW K #[.slice na l.length nc, .int .i64 0, .slice la an.length lc, .int .i64 ((0 : Nat) : Int)] 96 := (r2.block K (by have e9 : (A.alloc (.cells #[.int .i64 k, .string (mk x), .slice none 0 0] 47)).heap.size = A.heap.size + 1 := World.size_alloc _ _; show K < (A.alloc (.cells #[.int .i64 k, .string (mk x), .slice none 0 0] 47)).heap.size; omega) (fun e => by have := (own_block HM0.out.ms.ow e.symm).1; omega)).trans ((show Bx A.drew K #[.slice na l.length nc, .int .i64 0, .slice la an.length lc, .int .i64 ((0 : Nat) : Int)] 96 from HM0.out.ms.bx).later (below_alloc A.drew _)); have y0 := hbE.c4.1; have y1 := hbE.fz 0)
    all_goals
      have hdr : Below A.heap.size A A.drew := (Below.refl _ A).drew
      obtain ⟨q1, q2, q3⟩ := mks_app (mks_later HM0.out.ms hdr) hk hx r1 r2 r3
      exact HQ.out (ea, ec) _ (mas_call (mas_later HM0.out hdr) q1 q2 q3 (OB.refl _ _) (nb_new _ _ _))
  case H2 =>
    rintro ⟨ea, ec⟩ B HB
    simp only at HB ⊢
    clear HM0 c0 c1 c2 c3 d0 d1 d2 d3
    obtain ⟨d0, d1, d2, d3⟩ := HB.out.tb.c4
    by_cases hae : a = []
    case' pos =>
      have ha' : ((mk a).toList == []) = true := by rw [mk_nil_eq]; simpa using hae
      have HAN : Hid (R = pls (plc d) k 0 ks [] [] ⟨(l ++ [((⟨k, x, []⟩ : Nd), Value.slice none 0 0)]).map (·.1), an⟩) := by
        show _ = _
        rw [HR.out]
        simp [put1, hae]
      clear hae HR
      go_upto_region 10 with fail
      obtain ⟨an9, han⟩ : ∃ an9, an9 = an := ⟨_, rfl⟩
      obtain ⟨lv9, hlv9⟩ : ∃ lv9 : Value, lv9 = .slice la an.length lc := ⟨_, rfl⟩
      obtain ⟨lj0, hlj0⟩ : ∃ lj0, lj0 = l ++ [((⟨k, x, []⟩ : Nd), Value.slice none 0 0)] := ⟨_, rfl⟩
      have HB9 : Hid (MaS w0 W B K KB #[.int .i64 k, .string (mk x), .string (mk a), .slice ad len cap] (.slice na l.length nc) (.slice la an.length lc) (.slice ea (l.length + 1) ec) lv9 (.slice none 0 0) l lj0 an9 0 []) := by rw [han, hlv9, hlj0]; exact HB
      have HAN9 : Hid (R = pls (plc d) k 0 ks [] [] ⟨lj0.map (·.1), an9⟩) := by show _ = _; rw [HAN.out, han, hlj0]
      have HLJ0 : Hid (lj0 = l ++ [((⟨k, x, []⟩ : Nd), Value.slice none 0 0)]) := hlj0
      clear HAN han hlv9 HB hlj0
      generalize B = B9 at HB9 ⊢
    case' neg =>
      have ha' : ((mk a).toList == []) = false := by rw [mk_nil_eq]; simpa using hae
      have HAN : Hid (R = pls (plc d) k 0 ks [] [] ⟨(l ++ [((⟨k, x, []⟩ : Nd), Value.slice none 0 0)]).map (·.1), (a, l.length) :: an⟩) := by
        show _ = _
        rw [HR.out]
        simp [put1, hae]
      clear hae HR
      go_upto_region 9 with fail
      obtain ⟨c0, c1, c2, c3⟩ := HB.out.ms.bx.c4
      obtain ⟨i1, hi', hy0, hy1, hy2⟩ := info_parts infoAnc
      have hKB' := HB.out.ms.bx.lt
      refine wp_thenQ (fun (p : Option Addr × Nat) => ({ tmps := #[.pointer (some ⟨K, 0, none⟩), tv k x a ad len cap, undef, .pointer (some ⟨KB, 0, none⟩), .int .i64 0, undef, .int .i64 (l.length : Int), undef, undef, undef, .pointer (some ⟨KB, 0, none⟩), .int .i64 k, .bool false, undef, undef, undef, undef, undef, undef, undef, undef, undef, undef, undef, undef, undef, undef, undef, undef, undef, .pointer (some ⟨K, 0, none⟩), .pointer (some ⟨K, 0, none⟩), .pointer (some ⟨K, 0, none⟩), .pointer (some ⟨K, 0, none⟩), .slice na l.length nc, .int .i64 (l.length : Int), .pointer (some ⟨K, 0, none⟩), .pointer (some ⟨K, 0, none⟩), .pointer (some ⟨K, 0, none⟩), .pointer (some ⟨K, 0, none⟩), .pointer (some ⟨K, 0, none⟩), .slice na l.length nc, .pointer (some ⟨KB, 0, none⟩), .int .i64 k, .pointer (some ⟨KB, 1, none⟩), .string (mk x), .agg #[.int .i64 k, .string (mk x), .slice none 0 0], .slice (some ⟨A.heap.size, 0, none⟩) 1 1, .slice ea (l.length + 1) ec, .pointer (some ⟨K, 0, none⟩), .pointer (some ⟨K, 0, none⟩), .pointer (some ⟨K, 0, none⟩), .pointer (some ⟨KB, 2, none⟩), .string (mk a), .bool true, .pointer (some ⟨K, 0, none⟩), .pointer (some ⟨K, 0, none⟩), .pointer (some ⟨K, 0, none⟩), .pointer (some ⟨K, 2, none⟩), .slice la an.length lc, .pointer (some ⟨KB, 2, none⟩), .string (mk a), .int .i64 (l.length : Int), .agg #[.string (mk a), .int .i64 (l.length : Int)], .slice (some ⟨B.heap.size, 0, none⟩) 1 1, .slice p.1 (an.length + 1) p.2, .pointer (some ⟨K, 0, none⟩), .pointer (some ⟨K, 2, none⟩), undef, undef, undef, undef, undef, undef, undef, undef, undef, undef, undef, undef, undef, undef, undef, undef, undef, undef, undef, undef, undef, undef, undef, undef, undef, undef, undef, undef, undef, undef, undef, undef, undef, undef, undef, undef, undef, undef, undef, undef, undef, undef, undef, undef, undef, undef, undef, undef, undef, undef, undef, undef, undef, undef, undef, undef, undef, undef, undef, undef, undef, undef, undef, undef, undef, undef, undef, undef, undef, undef, undef, undef, undef, undef, undef, undef, undef, undef, undef, undef, undef], defers := [] } : Go.Act)) (fun p w' => Hid (MaS w0 W w' K KB #[.int .i64 k, .string (mk x), .string (mk a), .slice ad len cap] (.slice na l.length nc) (.slice la an.length lc) (.slice ea (l.length + 1) ec) (.slice p.1 (an.length + 1) p.2) (.slice none 0 0) l (l ++ [((⟨k, x, []⟩ : Nd), Value.slice none 0 0)]) ((a, l.length) :: an) 0 [])) ?H3 ?H4
      case H3 =>
        intro HQ
        go_region_law (refine step_app rfl (.tmp 59) (.tmp 64) 94 rfl (K + 1) 119 i1 (.agg #[.string ⟨#[]⟩, .int .i64 0]) 2 24 Tryz.underlying94 hi' hy0 hy1 hy2 rfl (by decide) (.slice la an.length lc) an.length (acs an) (by simp [Act.eval, Act.put]) ((show B.drew.ownsRow (K + 1) 119 2 (.slice la an.length lc) an.length (acs an) from HB.out.ms.ol).alloc _) ⟨B.heap.size, 0, none⟩ 1 1 [.string (mk a), .int .i64 (l.length : Int)] (by simp [Act.eval, Act.put]) rfl (cell_two _ _ _ _) (fun u hu => by simp only [List.mem_cons, List.not_mem_nil, or_false] at hu; rcases hu with rfl | rfl <;> rfl) (by omega) (by omega) (by have e9 : (B.alloc (.cells #[.string (mk a), .int .i64 (l.length : Int)] 119)).heap.size = B.heap.size + 1 := World.size_alloc _ _; show K + 1 ≤ (B.alloc (.cells #[.string (mk a), .int .i64 (l.length : Int)] 119)).heap.size; omega) ?_; intro ev eW r1 r2 r3; obtain ⟨va, vc, rfl, _, _⟩ := own_shapeN r1; have hbE : Bx eW K #[.slice ea (l.length + 1) ec, .int .i64 0, .slice la an.length lc, .int .i64 ((0 : Nat) : Int)] 96 := (r2.block K (by have e9 : (B.alloc (.cells #[.string (mk a), .int .i64 (l.length : Int)] 119)).heap.size = B.heap.size + 1 := World.size_alloc _ _; show K < (B.alloc (.cells #[.string (mk a), .int .i64 (l.length : Int)] 119)).heap.size; omega) (fun e => by have := (own_block HB.out.ms.ol e.symm).1; omega)).trans ((show Bx B.drew K #[.slice ea (l.length + 1) ec, .int .i64 0, .slice la an.length lc, .int .i64 ((0 : Nat) : Int)] 96 from HB.out.ms.bx).later (below_alloc B.drew _)); have y2 := hbE.c4.2.2.1; have y3 := hbE.fz 2)
        all_goals
          have hdr : Below B.heap.size B B.drew := (Below.refl _ B).drew
          obtain ⟨q1, q2, q3⟩ := mks_anc (mks_later HB.out.ms hdr) hll (by rw [List.length_append, List.length_singleton]; have := HAL.out; omega) r1 r2 r3
          exact HQ.out (va, vc) _ (mas_call (mas_later HB.out hdr) q1 q2 (OB.refl _ _) q3 (NB.refl _ _))
      case' H4 =>
        rintro ⟨va, vc⟩ B9 HB9
        simp only at HB9 ⊢
        clear c0 c1 c2 c3 d0 d1 d2 d3 HB
        go_upto_region 10 with fail
        obtain ⟨an9, han⟩ : ∃ an9, an9 = (a, l.length) :: an := ⟨_, rfl⟩
        obtain ⟨lv9, hlv9⟩ : ∃ lv9 : Value, lv9 = .slice va (an.length + 1) vc := ⟨_, rfl⟩
        obtain ⟨lj0, hlj0⟩ : ∃ lj0, lj0 = l ++ [((⟨k, x, []⟩ : Nd), Value.slice none 0 0)] := ⟨_, rfl⟩
        have HB8 : Hid (MaS w0 W B9 K KB #[.int .i64 k, .string (mk x), .string (mk a), .slice ad len cap] (.slice na l.length nc) (.slice la an.length lc) (.slice ea (l.length + 1) ec) lv9 (.slice none 0 0) l lj0 an9 0 []) := by rw [han, hlv9, hlj0]; exact HB9
        have HAN9 : Hid (R = pls (plc d) k 0 ks [] [] ⟨lj0.map (·.1), an9⟩) := by show _ = _; rw [HAN.out, han, hlj0]
        have HLJ0 : Hid (lj0 = l ++ [((⟨k, x, []⟩ : Nd), Value.slice none 0 0)]) := hlj0
        clear HAN han hlv9 HB9 hlj0
        have HB9 := HB8
        clear HB8
    all_goals
      have HLJ1 : Hid (lj0[l.length]? = some (⟨k, x, []⟩, .slice none 0 0) ∧ (∀ i, i < l.length → lj0[i]? = l[i]?) ∧ lj0.length = l.length + 1) := by
        rw [HLJ0.out]
        exact ⟨by simp, fun i hi => List.getElem?_append_left hi, by simp⟩
      have HL : Hid (len = ks.length) := HKA.out.1
      clear HLJ0
      obtain ⟨d0, d1, d2, d3⟩ := HB9.out.tb.c4
      go_wp2_with fail
      clear d0 d1 d2 d3
      go_loopw [7, 8] (fun pv i wr => ∃ (j e : Nat) (ps : List Int) (nvj lvj : Value) (lj : List (Nd × Value)) (anj : List (Ln × Nat)), j ≤ len ∧ i = .int .i64 j ∧ e ≤ 100 ∧ ps.length ≤ j ∧ Hid (MaS w0 W wr K KB #[.int .i64 k, .string (mk x), .string (mk a), .slice ad len cap] (.slice na l.length nc) (.slice la an.length lc) nvj lvj pv l lj anj e ps) ∧ Hid (e = 0 → ∃ psN : List Nat, ps = psN.map (fun a : Nat => (a : Int)) ∧ R = pls (plc d) k j (ks.drop j) (kyU k ks j) psN ⟨lj.map (·.1), anj⟩) ∧ Hid (e ≠ 0 → R.2.1 = e) ∧ Hid (lj[l.length]? = some (⟨k, x, []⟩, .slice none 0 0) ∧ (∀ i, i < l.length → lj[i]? = l[i]?) ∧ lj.length + ((ks.drop j).map (tsz d)).sum ≤ l.length + 1 + (ks.map (tsz d)).sum)) (fun _ i _ => len - (intOf i).toNat)
      case atStart => exact ⟨0, 0, [], _, _, lj0, an9, Nat.zero_le _, rfl, Nat.zero_le _, Nat.le_refl _, HB9, fun _ => ⟨[], rfl, HAN9.out⟩, fun h => absurd rfl h, HLJ1.out.1, HLJ1.out.2.1, by rw [HLJ1.out.2.2, List.drop_zero]; omega⟩
      case round =>
        obtain ⟨j, e, ps, nvj, lvj, lj, anj, hj, rfl, he9, hpl, HS, HE0, HE1, HLJ⟩ := hrel
        clear HB9 HAN9 HLJ1
        by_cases hgo : j < len ∧ e = 0
        · obtain ⟨hlt, rfl⟩ := hgo
          have hjl : j < ks.length := by have := HL.out; omega
          obtain ⟨b, off, rfl, hb, hcell⟩ := HKA.out.2 (by omega)
          obtain ⟨v0, v1, v2, v3, x0, x1, x2, x3, hx'⟩ := hcell j hlt
          obtain ⟨ad', len', cap', rfl, rfl, rfl, rfl⟩ := hx'.four
          have HV : Hid (TrV w0 d (tv (ks.getD j tr0).kind (ks.getD j tr0).text (ks.getD j tr0).anc ad' len' cap') (ks.getD j tr0)) := hx'
          obtain ⟨psN, hps, hRJ⟩ := HE0.out rfl
          have HPS : Hid (ps = psN.map (fun a : Nat => (a : Int))) := hps
          have HRJ : Hid (R = _) := hRJ.trans (pls_at (plc d) k j ks (kyU k ks j) psN ⟨lj.map (·.1), anj⟩ hjl)
          have HSD : Hid (((ks.drop j).map (tsz d)).sum = tsz d (ks.getD j tr0) + ((ks.drop (j + 1)).map (tsz d)).sum) := sum_drop (tsz d) ks j hjl
          have HKS : Hid (kyU k ks (j + 1) = _) := kyU_succ k ks j
          have HPE : Hid ((plc d (ks.getD j tr0) ⟨lj.map (·.1), anj⟩).2.1 ≤ 100) := Nat.le_trans (plc_e d _ _) (by decide)
          have HCL : Hid (∀ i, i < len → ∃ ad' len' cap', w0.cell? ⟨b, off + i * 4, none⟩ = some (.int .i64 (ks.getD i tr0).kind) ∧ w0.cell? ⟨b, off + i * 4 + 1, none⟩ = some (.string (mk (ks.getD i tr0).text)) ∧ w0.cell? ⟨b, off + i * 4 + 2, none⟩ = some (.string (mk (ks.getD i tr0).anc)) ∧ w0.cell? ⟨b, off + i * 4 + 3, none⟩ = some (.slice ad' len' cap')) := fun i hi => by
            obtain ⟨v0, v1, v2, v3, x0, x1, x2, x3, hx'⟩ := hcell i hi
            obtain ⟨ad', len', cap', rfl, rfl, rfl, rfl⟩ := hx'.four
            exact ⟨ad', len', cap', x0, x1, x2, x3⟩
          have HCJ : Hid (_ ∧ _ ∧ _ ∧ _) := And.intro x0 (And.intro x1 (And.intro x2 x3))
          have hok : ∀ i, i < len → (-9223372036854775808 ≤ (ks.getD i tr0).kind ∧ (ks.getD i tr0).kind ≤ 9223372036854775807) := fun i hi => by
            obtain ⟨v0, v1, v2, v3, x0, x1, x2, x3, hx'⟩ := hcell i hi
            cases d with
            | zero => exact hx'.elim
            | succ d =>
              obtain ⟨_, _, _, _, _, _, _, hzz, _⟩ := hx'
              exact ⟨hzz.1, hzz.2.1⟩
          clear hcell hx' hps hRJ HE0 HE1 x0 x1 x2 x3
          have hkj : 1 ≤ d := by
            cases d with
            | zero => exact HV.out.elim
            | succ d => omega
          obtain ⟨c0, c1, c2, c3⟩ := HS.out.ms.bx.c4
          obtain ⟨d0, d1, d2, d3⟩ := HS.out.tb.c4
          go_wp2_with fail
          clear c0 c1 c2 c3 d0 d1 d2 d3
          go_loopw [9] (fun i2v wq => ∃ i2 : Nat, i2 % 2 = 0 ∧ i2 ≤ j + 1 ∧ i2v = .int .i64 i2 ∧ Hid (MaS w0 W wq K KB #[.int .i64 k, .string (mk x), .string (mk a), .slice (some ⟨b, off, none⟩) len cap] (.slice na l.length nc) (.slice la an.length lc) nvj lvj u7 l lj anj 0 ps) ∧ Hid (((ks.getD j tr0).kind, (ks.getD j tr0).text) ∉ kyU k ks i2)) (fun v _ => j + 2 - (intOf v).toNat)
          case atStart => exact ⟨0, rfl, by omega, rfl, HS, (by simp [kyU] : ((ks.getD j tr0).kind, (ks.getD j tr0).text) ∉ kyU k ks 0)⟩
          case round =>
            obtain ⟨i2, hev, hi2, rfl, HW, HNI⟩ := hrel
            obtain ⟨d0, d1, d2, d3⟩ := HW.out.tb.c4
            have hj63 : j ≤ 9223372036854775807 := by omega
            by_cases hin : i2 < j ∧ k = 6 ∧ j % 2 = 0
            · obtain ⟨hij, hk6, hj2⟩ := hin
              have hkk : (k == 6) = true := by simpa using hk6
              have HK6 : Hid (kyP k i2 = true ∧ kyP k j = true) := by
                unfold kyP
                rw [decide_eq_true hk6, decide_eq_true hj2, decide_eq_true hev]
                exact ⟨rfl, rfl⟩
              have hrm : ((j : Int) % 2 == 0) = true := by rw [beq_iff_eq]; omega
              obtain ⟨ada, lena, capa, y0, y1, _, _⟩ := HCL.out i2 (by omega)
              replace y0 := (HW.out.ms.bl.cell (p := ⟨b, off + i2 * 4, none⟩) hb).trans y0
              replace y1 := (HW.out.ms.bl.cell (p := ⟨b, off + i2 * 4 + 1, none⟩) hb).trans y1
              have s0 := (HW.out.ms.bl.cell (p := ⟨b, off + j * 4, none⟩) hb).trans HCJ.out.1
              have s1 := (HW.out.ms.bl.cell (p := ⟨b, off + j * 4 + 1, none⟩) hb).trans HCJ.out.2.1
              obtain ⟨ki, hki⟩ : ∃ ki, ki = (ks.getD i2 tr0).kind := ⟨_, rfl⟩
              obtain ⟨xi, hxi⟩ : ∃ xi, xi = (ks.getD i2 tr0).text := ⟨_, rfl⟩
              obtain ⟨kj, hkj2⟩ : ∃ kj, kj = (ks.getD j tr0).kind := ⟨_, rfl⟩
              obtain ⟨xj, hxj⟩ : ∃ xj, xj = (ks.getD j tr0).text := ⟨_, rfl⟩
              have HPI : Hid ((ki, xi) = ((ks.getD i2 tr0).kind, (ks.getD i2 tr0).text)) := by rw [hki, hxi]; exact rfl
              have HPJ : Hid ((kj, xj) = ((ks.getD j tr0).kind, (ks.getD j tr0).text)) := by rw [hkj2, hxj]; exact rfl
              rw [← hki] at y0
              rw [← hxi] at y1
              rw [← hkj2] at s0
              rw [← hxj] at s1
              clear hki hxi hkj2 hxj hk6 hj2
              have hil : i2 < len := by omega
              by_cases hpe : (ki, xi) = (kj, xj)
              · have hq1 : (ki == kj) = true := by rw [show ki = kj from congrArg Prod.fst hpe]; simp
                have hq2 : ((mk xi).toList == (mk xj).toList) = true := by rw [show xi = xj from congrArg Prod.snd hpe]; simp
                have HRF : Hid (R = ([], 7, ⟨lj.map (·.1), anj⟩)) := by
                  show _ = _
                  rw [HRJ.out, if_pos ⟨HK6.out.2, kyU_mem.2 ⟨i2, hij, HK6.out.1, by rw [← HPI.out, hpe, HPJ.out]⟩⟩]
                have HM7 : Hid (∀ n, MaS w0 W ((wr.drewN n).setCell ⟨K, 3, none⟩ (.int .i64 ((7 : Nat) : Int))) K KB #[.int .i64 k, .string (mk x), .string (mk a), .slice (some ⟨b, off, none⟩) len cap] (.slice na l.length nc) (.slice la an.length lc) nvj lvj u7 l lj anj 7 ps) := fun n => mas_err (mas_later HW.out (below_drewN (Below.refl _ _) n)) 7
                obtain ⟨c0, c1, c2, c3⟩ := HW.out.ms.bx.c4
                have z3 := HW.out.ms.bx.fz 3
                clear hpe HPI HPJ HNI HS HW HP HV HRJ HKS HPE HCL HCJ HL HSD HPS
                go_wp2
                go_quiet (fail)
                go_wp2
                go_ret
                have q := HM7.out nq
                have h9 := HLJ.out.2.2
                have hl0 : l.length < lj.length := (List.getElem?_eq_some_iff.1 HLJ.out.1).1
                have e9 : (setK l.length ⟨k, x, a, ks⟩ R).2.1 = 7 := by show R.2.1 = 7; rw [HRF.out]
                exact ⟨(l.length : Int), nvj, lvj, lj, anj, rfl, ⟨by omega, by omega⟩, by rw [e9]; exact q.ms, fun h0 => absurd (e9.symm.trans h0) (by decide), by omega, by omega, HLJ.out.2.1, q.ch, q.ob, q.oc, q.nb⟩
              · have HNI2 : Hid (((ks.getD j tr0).kind, (ks.getD j tr0).text) ∉ kyU k ks (i2 + 2)) := by
                  intro hm
                  obtain ⟨i3, h1, h2, h3⟩ := kyU_mem.1 hm
                  by_cases h4 : i3 < i2
                  · exact HNI.out (kyU_mem.2 ⟨i3, h4, h2, h3⟩)
                  · by_cases h5 : i3 = i2
                    · subst h5; exact hpe (by rw [HPI.out, h3, HPJ.out])
                    · have h6 : i3 = i2 + 1 := by omega
                      unfold kyP at h2
                      rw [Bool.and_eq_true] at h2
                      have := of_decide_eq_true h2.2
                      omega
                have hq : (ki == kj) = false ∨ (ki == kj) = true ∧ ((mk xi).toList == (mk xj).toList) = false := by
                  by_cases h1 : ki = kj
                  · refine .inr ⟨by simpa using h1, ?_⟩
                    rw [beq_mk]
                    by_cases h2 : xi = xj
                    · exact absurd (by rw [h1, h2]) hpe
                    · simpa using h2
                  · exact .inl (by simpa using h1)
                clear hpe
                rcases hq with hq1 | ⟨hq1, hq2⟩
                all_goals
                  go_wp2
                  go_quiet (fail)
                  go_wp2
                  go_roundw
                  case rel => exact ⟨i2 + 2, by omega, by omega, by go_num, mas_later HW.out (below_drewN (Below.refl _ _) _), HNI2⟩
                  case measure => (simp [intOf] <;> omega)
            · have HNK : Hid (¬ (kyP k j = true ∧ ((ks.getD j tr0).kind, (ks.getD j tr0).text) ∈ kyU k ks j)) := by
                rintro ⟨h1, h2⟩
                unfold kyP at h1
                rw [Bool.and_eq_true] at h1
                have h3 := of_decide_eq_true h1.1
                have h4 := of_decide_eq_true h1.2
                have h5 : ¬ i2 < j := fun h => hin ⟨h, h3, h4⟩
                have h6 : i2 = j := by omega
                subst h6
                exact HNI.out h2
              have hw : ¬ i2 < j ∨ (i2 < j ∧ (k == 6) = false) ∨ (i2 < j ∧ (k == 6) = true ∧ ((j : Int) % 2 == 0) = false) := by
                by_cases h1 : i2 < j
                · by_cases h2 : k = 6
                  · refine .inr (.inr ⟨h1, by simpa using h2, ?_⟩)
                    have h3 : ¬ j % 2 = 0 := fun h => hin ⟨h1, h2, h⟩
                    rw [beq_eq_false_iff_ne]
                    omega
                  · exact .inr (.inl ⟨h1, by simpa using h2⟩)
                · exact .inl h1
              obtain ⟨r, Hr⟩ : ∃ r, Hid (r = plc d (ks.getD j tr0) ⟨lj.map (·.1), anj⟩) := ⟨_, rfl⟩
              have hlj1 : lj.length + tsz d (ks.getD j tr0) ≤ 1000000 := by have h1 := HLJ.out.2.2; have h2 := HSD.out; have h3 := HZ.out; omega
              have hCall := HP.out _ _ _ _ _ _ _ HV.out HW.out.ms hlj1
              rw [← Hr.out] at hCall
              obtain ⟨kj, hkj2⟩ : ∃ kj, kj = (ks.getD j tr0).kind := ⟨_, rfl⟩
              obtain ⟨xj, hxj⟩ : ∃ xj, xj = (ks.getD j tr0).text := ⟨_, rfl⟩
              obtain ⟨aj, haj⟩ : ∃ aj, aj = (ks.getD j tr0).anc := ⟨_, rfl⟩
              obtain ⟨tj, htj⟩ : ∃ tj, tj = tsz d (ks.getD j tr0) := ⟨_, rfl⟩
              rw [← hkj2, ← hxj, ← haj, ← htj] at hCall
              have s0 := (HW.out.ms.bl.cell (p := ⟨b, off + j * 4, none⟩) hb).trans HCJ.out.1
              have s1 := (HW.out.ms.bl.cell (p := ⟨b, off + j * 4 + 1, none⟩) hb).trans HCJ.out.2.1
              have s2 := (HW.out.ms.bl.cell (p := ⟨b, off + j * 4 + 2, none⟩) hb).trans HCJ.out.2.2.1
              have s3 := (HW.out.ms.bl.cell (p := ⟨b, off + j * 4 + 3, none⟩) hb).trans HCJ.out.2.2.2
              rw [← hkj2] at s0
              rw [← hxj] at s1
              rw [← haj] at s2
              have HCall : Hid (Calls Tryz.prog 38 _ _ _) := hCall
              have hlenb : len ≤ 1000000 := by have h1 := sum_ge hkj ks; have h2 := HL.out; have h3 := HZ.out; omega
              obtain ⟨i0', hi', hz0', hz1', hz2'⟩ := info_parts Tryz.infoInt
              have HRK : Hid (R = if r.2.1 = 0 then pls (plc d) k (j + 1) (ks.drop (j + 1)) (kyU k ks (j + 1)) (psN ++ [r.1]) r.2.2 else ([], r.2.1, r.2.2)) := by
                show _ = _
                rw [HRJ.out, if_neg HNK.out, ← Hr.out, HKS.out]
              have HTZ : Hid (lj.length + (tj + ((ks.drop (j + 1)).map (tsz d)).sum) ≤ l.length + 1 + (ks.map (tsz d)).sum) := by
                have h1 := HLJ.out.2.2
                rw [HSD.out, ← htj] at h1
                exact h1
              have HRB : Hid (r.2.1 ≤ 100) := by rw [Hr.out]; exact HPE.out
              clear hCall hin hkj2 hxj haj htj HNK HNI HRJ HKS HPE HCL HCJ HSD HV HP Hr hlj1 hok HS
              rcases hw with hw1 | ⟨hw1, hw2⟩ | ⟨hw1, hw2, hw3⟩
              all_goals
                go_wp2_with (first | (go_at_call 38; refine HCall.out.mono ?_; rintro e w5 ⟨at_, nv2, lv2, l2, an2, rfl, hat, hM2, hE2, hle1, hle2, hkp, hC2, hO1, hO2, hN2⟩; have H6 : Hid (MaS w0 W (w5.alloc (.cells #[.int .i64 at_] 3)) K KB #[.int .i64 k, .string (mk x), .string (mk a), .slice (some ⟨b, off, none⟩) len cap] (.slice na l.length nc) (.slice la an.length lc) nv2 lv2 u7 l l2 an2 r.2.1 ps) := mas_later (mas_call HW.out hM2 hC2 hO1 hO2 hN2) (below_alloc _ _)) | (at_builtin; refine wpList_append_own_at _ rfl _ _ 45 rfl (KB + 1) 3 i0' (.int .i64 0) 1 8 Tryz.underInts hi' hz0' hz1' hz2' rfl (by decide) u7 ps.length _ rfl H6.out.pw ⟨w5.heap.size, 0, none⟩ 1 1 [Value.int .i64 at_] rfl rfl (cell_one_new _ _ _) (fun u hu => by rw [List.mem_singleton.1 hu]; rfl) (by omega) (by omega) (by have := H6.out.tb.lt; omega) ?_; intro pv' w6 hw6 hg6 _ hat6))
                have H7 : Hid (MaS w0 W w6 K KB #[.int .i64 k, .string (mk x), .string (mk a), .slice (some ⟨b, off, none⟩) len cap] (.slice na l.length nc) (.slice la an.length lc) nv2 lv2 pv' l l2 an2 r.2.1 (ps ++ [at_])) := mas_app H6.out hat hw6 hg6 hat6
                have hl0 : l.length < lj.length := (List.getElem?_eq_some_iff.1 HLJ.out.1).1
                go_roundw
                case rel =>
                  refine ⟨j + 1, r.2.1, ps ++ [at_], nv2, lv2, l2, an2, by omega, by go_num, HRB.out, by rw [List.length_append, List.length_singleton]; omega, H7, fun h0 => ?_, fun h0 => ?_, ?_, fun i hi => ?_, ?_⟩
                  · obtain ⟨q1, q2, q3⟩ := hE2 h0
                    refine ⟨psN ++ [r.1], by rw [List.map_append, HPS.out, q1]; rfl, ?_⟩
                    rw [HRK.out, if_pos h0, q2, q3]
                  · rw [HRK.out, if_neg h0]
                  · rw [hkp _ hl0]; exact HLJ.out.1
                  · rw [hkp _ (by omega)]; exact HLJ.out.2.1 i hi
                  · have := HTZ.out; omega
                case measure => (simp [intOf] <;> omega)
        · have hx2 : ¬ j < len ∨ (j < len ∧ ((e : Int) == 0) = false) := by
            by_cases h1 : j < len
            · refine .inr ⟨h1, ?_⟩
              rw [beq_eq_false_iff_ne]
              intro h2
              exact hgo ⟨h1, by omega⟩
            · exact .inl h1
          have HFN : Hid (R.2.1 = e ∧ (e = 0 → R.1.map (fun a : Nat => (a : Int)) = ps ∧ R.2.2 = ⟨lj.map (·.1), anj⟩)) := by
            by_cases h0 : e = 0
            · have h1 : ¬ j < len := fun h => hgo ⟨h, h0⟩
              obtain ⟨psN, q1, q2⟩ := HE0.out h0
              rw [List.drop_of_length_le (by have := HL.out; omega)] at q2
              have q3 : R = (psN, 0, ⟨lj.map (·.1), anj⟩) := q2
              rw [q3, q1, h0]
              exact ⟨rfl, fun _ => ⟨rfl, rfl⟩⟩
            · exact ⟨HE1.out h0, fun h => absurd h h0⟩
          have hl0 : l.length < lj.length := (List.getElem?_eq_some_iff.1 HLJ.out.1).1
          obtain ⟨g5, cap5, hnv5, hg5⟩ : ∃ g c, nvj = .slice (some ⟨g, 0, none⟩) lj.length c ∧ K + 1 ≤ g := by
            rcases HS.out.ms.ow.2 with ⟨_, h2⟩ | ⟨g, c, cur, h2, h3, _⟩
            · omega
            · exact ⟨g, c, h2, h3⟩
          obtain ⟨pa, pc, hpv, h6, h7⟩ := own_shapeN HS.out.pw
          have hi9 := iat_own (l := ps) (by have := HS.out.pw; rw [hpv] at this; exact this) HS.out.pb
          obtain ⟨m1, m2, m3⟩ := mas_done HS.out HLJ.out.1 hnv5 hpv h6 h7 hi9.1.1
          have HM9 : Hid (_ ∧ _ ∧ _) := And.intro m1 (And.intro m2 m3)
          have HOB9 : Hid (_ ∧ _) := And.intro HS.out.ob HS.out.oc
          have hown5 := HS.out.ms.ow
          subst hnv5
          have y1 : wr.cell? ⟨g5, l.length * 3 + 2, none⟩ = some (.slice none 0 0) := by
            rw [hown5.cellAt (l.length * 3 + 2) (by omega)]
            exact (ncs_get lj l.length _ HLJ.out.1).2.2
          have z1 := hown5.frozenAt (l.length * 3 + 2)
          have hlt5 : lj.length ≤ cap5 ∧ cap5 ≤ maxLen := by
            obtain ⟨_, _, e1, e2, e3⟩ := own_shapeN hown5
            cases e1
            exact ⟨e2, e3⟩
          obtain ⟨c0, c1, c2, c3⟩ := HS.out.ms.bx.c4
          obtain ⟨d0, d1, d2, d3⟩ := HS.out.tb.c4
          have HSM : Hid (lj.length ≤ l.length + (1 + (ks.map (tsz d)).sum)) := by have := HLJ.out.2.2; show _ ≤ _; omega
          have hljb : lj.length ≤ 1000000 := by have := HSM.out; have := HZ.out; omega
          subst hpv
          clear m1 m2 m3 hown5 hi9 HS hgo HE0 HE1 HKA HP
          rcases hx2 with hx2 | ⟨hx2, hx3⟩
          all_goals
            go_wp2
            go_ret
            refine ⟨(l.length : Int), _, lvj, _, anj, rfl, ⟨by omega, by omega⟩, ?_, fun h0 => ?_, by rw [List.length_set]; omega, by rw [List.length_set]; exact HSM.out, fun i hi => ?_, HM9.out.2.1, HOB9.out.1, HOB9.out.2, HM9.out.2.2⟩
            · have e9 : (setK l.length ⟨k, x, a, ks⟩ R).2.1 = e := HFN.out.1
              rw [e9]; exact HM9.out.1
            · have e9 : R.2.1 = 0 := h0
              obtain ⟨q1, q2⟩ := HFN.out.2 (by rw [← HFN.out.1]; exact e9)
              refine ⟨rfl, ?_, ?_⟩
              · show _ = R.2.2.ns.set l.length ⟨k, x, R.1.map fun a : Nat => (a : Int)⟩
                rw [List.map_set, q1, q2]
              · show anj = R.2.2.an
                rw [q2]
            · rw [List.getElem?_set_ne (by omega)]
              exact HLJ.out.2.1 i hi
/-- add does its work -/
theorem radd_any (w0 : World) (K : Nat) : ∀ d, AdOk w0 K d
  | 0 => fun v t W nv lv l an hT _ _ => hT.elim
  | d + 1 => fun v t W nv lv l an hT hM hz => by
    obtain ⟨k, x, a, ks⟩ := t
    obtain ⟨ad, len, cap, rfl, hl, hc, hm, hz', hk'⟩ := hT
    exact add_core (Nat.le_trans hc (Nat.le_trans hm (by decide))) ⟨hz'.1, hz'.2.1⟩ hz'.2.2.1 hz'.2.2.2 (⟨hl, hk'⟩ : KAt w0 d ad len ks) (radd_any w0 K d) hM hz
end Go.Proofs.YtaphijgbebhdlaaGreatDoor.Grp
end
