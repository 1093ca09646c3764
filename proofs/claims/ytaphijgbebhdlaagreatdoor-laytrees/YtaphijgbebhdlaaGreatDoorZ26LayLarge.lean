/- Several texts as one: LayLarge, LayAll. -/
import Derived.Test.YtaphijgbebhdlaaGreatDoorZ13GraphDif
import Derived.Test.YtaphijgbebhdlaaGreatDoorZ22LayLd
import Derived.Test.YtaphijgbebhdlaaGreatDoorZ40GraphPlc2
section
/- The law's large, by its contract. -/
namespace Go.Proofs.YtaphijgbebhdlaaGreatDoor.Grp
open Utf Rws Pln Flw
open Go.RowKit
set_option linter.unusedSimpArgs false
set_option linter.unusedVariables false
set_option maxRecDepth 100000
set_option maxHeartbeats 4000000

def szN (n : Nd) : Nat := min n.kids.length 2000 + min n.text.length 2000
def sm (ns : List Nd) : Nat := (ns.map szN).sum
def lgB (ns : List Nd) : Bool := (decide (200 < ns.length) && decide (ns.length ≤ 4096)) || decide (1200 < sm (ns.take 200))
theorem sm_snoc (ns : List Nd) (j : Nat) (h : j < ns.length) : sm (ns.take (j + 1)) = sm (ns.take j) + szN (ns.getD j nd0) := by
  rw [List.take_succ_eq_append_getElem h, List.getD_eq_getElem?_getD, List.getElem?_eq_getElem h, sm, List.map_append, List.sum_append]
  show _ + (szN ns[j] + 0) = _
  rfl
theorem sm_le (ns : List Nd) : sm ns ≤ ns.length * 4000 := by
  induction ns with
  | nil => simp [sm]
  | cons n t ih =>
    have e : sm (n :: t) = szN n + sm t := by simp [sm]
    have : szN n ≤ 4000 := by unfold szN; omega
    rw [e, List.length_cons]
    omega
theorem sm_mem {ns : List Nd} {n : Nd} (h : n ∈ ns) : szN n ≤ sm ns := by
  induction ns with
  | nil => cases h
  | cons m t ih =>
    have e : sm (m :: t) = szN m + sm t := by simp [sm]
    rcases List.mem_cons.1 h with rfl | h
    · omega
    · have := ih h; omega
theorem sumK_sm {ns : List Nd} (h : ∀ n ∈ ns, n.kids.length < 2000) : sumK ns ≤ sm ns := by
  induction ns with
  | nil => simp [sumK, sm]
  | cons m t ih =>
    have e : sm (m :: t) = szN m + sm t := by simp [sm]
    have e2 : sumK (m :: t) = m.kids.length + sumK t := by simp [sumK]
    have h1 := ih (fun n hn => h n (List.mem_cons_of_mem _ hn))
    have h2 := h m (by simp)
    have h3 : m.kids.length ≤ szN m := by unfold szN; omega
    omega
/-- what is not large is small -/
theorem lgB_sml {ns : List Nd} (h : lgB ns = false) : Sml ns := by
  intro hl
  unfold lgB at h
  rw [Bool.or_eq_false_iff, Bool.and_eq_false_iff, decide_eq_false_iff_not, decide_eq_false_iff_not, decide_eq_false_iff_not] at h
  have h3 : ns.length ≤ 200 := by omega
  rw [List.take_of_length_le h3] at h
  have hb : ∀ n ∈ ns, n.text.length ≤ 1200 ∧ n.kids.length ≤ 1200 := fun n hn => by
    have := sm_mem hn
    unfold szN at this
    omega
  refine ⟨fun n hn => by have := (hb n hn).1; omega, ?_⟩
  have := sumK_sm (fun n hn => by have := (hb n hn).2; omega : ∀ n ∈ ns, n.kids.length < 2000)
  omega
theorem large_core {w : World} {ad : Option Addr} {len cap : Nat} {r : Int} {ns : List Nd} (hN : NAt w ad len ns) (hc : len ≤ cap) (hm : cap ≤ maxLen) :
    Calls Tryz.prog 5 #[gv ad len cap r] w fun e w' => e = .returned (.bool (lgB ns)) ∧ Below w.heap.size w w' := by
  have HLn : Hid (len = ns.length) := hN.1
  have HN : Hid (NAt w ad len ns) := hN
  have hcm : cap ≤ 9223372036854775807 := hm
  have h0 : RS w (w.alloc (.cells #[.slice ad len cap, .int .i64 r] 24)) w.heap.size (.slice ad len cap) (.int .i64 r) := ⟨Bx.new _ _ _, below_alloc _ _⟩
  obtain ⟨q, HQ⟩ : ∃ q, Hid (q = lgB ns) := ⟨_, rfl⟩
  rw [← HQ.out]
  clear hN hm
  go_enter Tryz.func5, Tryz.ntmps5
  go_upto_region 2 with fail
  generalize w.alloc (.cells #[.slice ad len cap, .int .i64 r] 24) = W0 at h0 ⊢
  generalize w.heap.size = K0 at h0 ⊢
  obtain ⟨c0, c1⟩ := h0.g.c2
  go_wp2_with fail
  obtain ⟨M, HM⟩ : ∃ M : Nat, Hid (M = min len 200) := ⟨_, rfl⟩
  rw [show max (min (len : Int) 200) 0 = (M : Int) by have := HM.out; omega, show (min (len : Int) 200).toNat = M by have := HM.out; omega, show min (len : Int) 200 = (M : Int) by have := HM.out; omega]
  clear c0 c1
  have hM3 : M ≤ 200 := by have := HM.out; omega
  have hMl : M ≤ len := by have := HM.out; omega
  go_loopw [3, 14] (fun n i wr => ∃ j : Nat, j ≤ M ∧ i = .int .i64 j ∧ n = .int .i64 (sm (ns.take j) : Int) ∧ Hid (RS w wr K0 (.slice ad len cap) (.int .i64 r))) (fun _ i _ => M - (intOf i).toNat)
  case atStart => exact ⟨0, Nat.zero_le _, rfl, rfl, h0⟩
  case round =>
    obtain ⟨j, hj, rfl, rfl, HS⟩ := hrel
    clear h0
    have hsm : sm (ns.take j) ≤ 1200000 := by
      have h1 := sm_le (ns.take j)
      have h2 : (ns.take j).length ≤ j := List.length_take_le _ _
      omega
    by_cases hlt : j < M
    · have hjl : j < ns.length := by have := HLn.out; omega
      obtain ⟨b, off, rfl, hb, hcc⟩ := HN.out.2 (by omega)
      obtain ⟨kad, klen, kcap, hk1, hk2, _, hx, hI, y0, y1, y2⟩ := hcc j (by omega)
      have HSM := sm_snoc ns j hjl
      generalize ns.getD j nd0 = nd at *
      obtain ⟨nk, nx, nl⟩ := nd
      simp only at y0 y1 y2 hI hx
      have HSM2 : Hid (((sm (ns.take (j + 1)) : Nat) : Int) = (sm (ns.take j) : Int) + (min (klen : Int) 2000 + min (nx.length : Int) 2000)) := by
        show _ = _
        rw [HSM]
        unfold szN
        simp only
        rw [← hI.1]
        omega
      have x0 := (HS.out.bl.cell (p := ⟨b, off + j * 3, none⟩) hb).trans y0
      have x1 := (HS.out.bl.cell (p := ⟨b, off + j * 3 + 1, none⟩) hb).trans y1
      have x2 := (HS.out.bl.cell (p := ⟨b, off + j * 3 + 2, none⟩) hb).trans y2
      have hmk : (mk nx).size = nx.length := mk_size nx
      have HNN : Hid (RN w (wr.alloc (.cells #[.int .i64 nk, .string (mk nx), .slice kad klen kcap] 47)) K0 wr.heap.size (.slice (some ⟨b, off, none⟩) len cap) (.int .i64 r) (.int .i64 nk) (.string (mk nx)) (.slice kad klen kcap)) := ⟨HS.out.later (below_alloc _ _), Bx.new _ _ _⟩
      clear hcc y0 y1 y2 hI HSM HS hk1 hk2
      generalize sm (ns.take j) = S at *
      go_upto_region 5 with fail
      generalize wr.alloc (.cells #[.int .i64 nk, .string (mk nx), .slice kad klen kcap] 47) = W1 at HNN ⊢
      generalize wr.heap.size = KK at HNN ⊢
      obtain ⟨d0, d1, d2⟩ := HNN.out.n.c3
      clear x0 x1 x2
      go_wp2
      go_roundw
      case rel => exact ⟨j + 1, by omega, by go_num, by rw [HSM2.out], HNN.out.s⟩
      case measure => simp [intOf]; omega
    · obtain rfl : j = M := by omega
      have HT : Hid (ns.take j = ns.take 200) := by
        show _ = _
        rcases Nat.lt_or_ge len 200 with h | h
        · have e : j = len := by have := HM.out; omega
          rw [List.take_of_length_le (by have := HLn.out; omega), List.take_of_length_le (by have := HLn.out; omega)]
        · have e : j = 200 := by have := HM.out; omega
          rw [e]
      have HQ2 : Hid (q = ((decide (200 < len) && decide (len ≤ 4096)) || decide (1200 < sm (ns.take j)))) := by
        show _ = _
        rw [HQ.out, HT.out, HLn.out]; rfl
      obtain ⟨c0, c1⟩ := HS.out.g.c2
      clear HQ HT
      generalize sm (ns.take j) = S at *
      by_cases h1 : 200 < len
      · have h1' : (200 : Int) < (len : Int) := by omega
        by_cases h2 : len ≤ 4096
        · have h2' : (len : Int) ≤ 4096 := by omega
          go_wp2
          go_ret
          exact ⟨by rw [HQ2.out, decide_eq_true h1, decide_eq_true h2]; rfl, HS.out.bl⟩
        · have h2' : ¬ (len : Int) ≤ 4096 := by omega
          by_cases h3 : 1200 < S
          · have h3' : (1200 : Int) < (S : Int) := by omega
            go_wp2
            go_ret
            exact ⟨by rw [HQ2.out, decide_eq_true h3, Bool.or_true]; rfl, HS.out.bl⟩
          · have h3' : ¬ (1200 : Int) < (S : Int) := by omega
            go_wp2
            go_ret
            exact ⟨by rw [HQ2.out, decide_eq_false h2, decide_eq_false h3, Bool.and_false]; rfl, HS.out.bl⟩
      · have h1' : ¬ (200 : Int) < (len : Int) := by omega
        by_cases h3 : 1200 < S
        · have h3' : (1200 : Int) < (S : Int) := by omega
          go_wp2
          go_ret
          exact ⟨by rw [HQ2.out, decide_eq_true h3, Bool.or_true]; rfl, HS.out.bl⟩
        · have h3' : ¬ (1200 : Int) < (S : Int) := by omega
          go_wp2
          go_ret
          exact ⟨by rw [HQ2.out, decide_eq_false h1, decide_eq_false h3]; rfl, HS.out.bl⟩
theorem large_any {w : World} {v : Value} {g : Gr} (h : GrV w v g) : Calls Tryz.prog 5 #[v] w fun e w' => e = .returned (.bool (lgB g.nodes)) ∧ Below w.heap.size w w' := by
  obtain ⟨ad, len, cap, rfl, h1, h2, h3, h4⟩ := h
  exact large_core h4 h1 h2
end Go.Proofs.YtaphijgbebhdlaaGreatDoor.Grp
end

section
/- What a graph that may be is laid to: its tree's size, short texts, and what it is composed to. -/
namespace Go.Proofs.YtaphijgbebhdlaaGreatDoor.Grp
open Utf Rws Pln Flw
set_option linter.unusedSimpArgs false
set_option linter.unusedVariables false

theorem bzK_ly {ns : List Nd} {nm : Nat → Ln} {N B d D : Nat} (hk : ∀ a, a < N → ∀ b ∈ kd ns a, b < N)
    (hf : ∀ a out, OkO N out → a < N → N < d + out.length → bri B D (lyT ns nm d a out).1 ∧ tsz D (lyT ns nm d a out).1 = (lyT ns nm d a out).2.2.length) :
    ∀ (l out : List Nat), OkO N out → (∀ b ∈ l, b < N) → N < d + out.length → (∀ t ∈ (lyK (lyT ns nm d) l out).1, bri B D t) ∧ ((lyK (lyT ns nm d) l out).1.map (tsz D)).sum = (lyK (lyT ns nm d) l out).2.2.length
  | [], out, _, _, _ => ⟨fun t ht => (by cases ht), rfl⟩
  | b :: l, out, ho, hl, hd => by
    obtain ⟨h1, h2⟩ := hf b out ho (hl b (by simp)) hd
    obtain ⟨n1, Q1⟩ := ly_t (nm := nm) hk d b out ho (hl b (by simp)) hd
    obtain ⟨h3, h4⟩ := bzK_ly hk hf l (lyT ns nm d b out).2.1 Q1.ok (fun c hc => hl c (by simp [hc])) (by rw [Q1.e, List.length_append]; omega)
    rw [show (lyK (lyT ns nm d) (b :: l) out).1 = (lyT ns nm d b out).1 :: (lyK (lyT ns nm d) l (lyT ns nm d b out).2.1).1 from rfl, show (lyK (lyT ns nm d) (b :: l) out).2.2 = (lyT ns nm d b out).2.2 ++ (lyK (lyT ns nm d) l (lyT ns nm d b out).2.1).2.2 from rfl]
    refine ⟨fun t ht => ?_, by rw [List.map_cons, List.sum_cons, List.length_append, h2, h4]⟩
    rcases List.mem_cons.1 ht with rfl | ht
    · exact h1
    · exact h3 t ht
theorem bz_ly {ns : List Nd} {nm : Nat → Ln} {N B : Nat} (hk : ∀ a, a < N → ∀ b ∈ kd ns a, b < N) (hx : ∀ a, a < N → (ns.getD a nd0).text.length ≤ B) (hn : ∀ a, (nm a).length ≤ B) :
    ∀ (d D : Nat), d ≤ D → ∀ (a : Nat) (out : List Nat), OkO N out → a < N → N < d + out.length → bri B D (lyT ns nm d a out).1 ∧ tsz D (lyT ns nm d a out).1 = (lyT ns nm d a out).2.2.length
  | 0, D, _, a, out, ho, _, hd => absurd ho.le (by omega)
  | d + 1, 0, hD, _, _, _, _, _ => absurd hD (by omega)
  | d + 1, D + 1, hD, a, out, ho, ha, hd => by
    by_cases h : a ∈ out
    · rw [ly_old h]
      exact ⟨⟨Nat.zero_le _, hn a, fun i hi => absurd hi (Nat.not_lt_zero _)⟩, rfl⟩
    · rw [ly_new h]
      obtain ⟨h1, h2⟩ := bzK_ly (B := B) (D := D) hk (fun a out h1 h2 h3 => bz_ly hk hx hn d D (by omega) a out h1 h2 h3) (kd ns a) (out ++ [a]) (ho.snoc ha h) (hk a ha) (by rw [List.length_append, List.length_singleton]; omega)
      refine ⟨⟨hx a ha, hn a, fun i hi => h1 _ ?_⟩, ?_⟩
      · rw [List.getD_eq_getElem?_getD, List.getElem?_eq_getElem hi]
        exact List.getElem_mem hi
      · rw [tsz, List.length_cons, ← h2]
        simp only
        omega
theorem ls_no {ns : List Nd} (h : ∀ n ∈ ns, ral n.kind n.text [] n.kids.length = true) (a : Nat) (hz : lsN ns a = 0) : kd ns a = [] := by
  unfold kd
  by_cases ha : a < ns.length
  · have h1 := h _ (mem_getD ha)
    unfold lsN at hz
    unfold ral at h1
    rw [Bool.and_eq_true, Bool.and_eq_true] at h1
    have h2 := h1.2
    unfold rct at h2
    generalize ns.getD a nd0 = n at *
    have h56 : ¬ (n.kind = 5 ∨ n.kind = 6) := fun q => by rw [if_pos q] at hz; omega
    rw [if_neg (fun q => h56 (.inl q)), if_neg (fun q => h56 (.inr q))] at h2
    have := of_decide_eq_true h2
    rw [List.length_eq_zero_iff.1 this]
    rfl
  · rw [List.getD_eq_getElem?_getD, List.getElem?_eq_none (by omega)]
    rfl
/-- of a graph whose tree is made -/
structure LyOk (g : Gr) (D : Nat) : Prop where
  rg : rgG g = true
  sz : (lyT g.nodes (nmG g.nodes g.root.toNat) (g.nodes.length + 1) g.root.toNat []).2.2.length = szG g.nodes g.root.toNat
  s4 : szG g.nodes g.root.toNat ≤ 4096
  right : rgh D (lyG g) = true
  err : (cmR D (lyG g)).2.1 = 0
  cn : (cmR D (lyG g)).2.2.ns = cnN g.nodes (odG g.nodes g.root.toNat)
  an1 : (anT D (lyG g)).1 = (shL g.nodes g.root.toNat).length
  an2 : (anT D (lyG g)).2 + (odG g.nodes g.root.toNat).length = szG g.nodes g.root.toNat
  tz : tsz D (lyG g) = szG g.nodes g.root.toNat
theorem lyE_zero {g : Gr} (h : lyE g = 0) : rgG g = true ∧ dpL g.nodes g.root.toNat ≤ 64 ∧ szG g.nodes g.root.toNat ≤ 4096 := by
  unfold lyE at h
  split at h
  · cases h
  · rename_i h1
    split at h
    · cases h
    · rename_i h2
      split at h
      · cases h
      · rename_i h3
        exact ⟨by simpa using h1, by omega, by omega⟩
theorem ly_ok {g : Gr} (h : lyE g = 0) {D : Nat} (hD : g.nodes.length + 1 ≤ D) : LyOk g D := by
  obtain ⟨h1, h2, h3⟩ := lyE_zero h
  obtain ⟨ns, r⟩ := g
  simp only at h2 h3 hD
  obtain ⟨f1, f2, f3⟩ := rgG_facts h1
  obtain ⟨m, rfl, hm⟩ := isP_nat f2
  rw [Int.toNat_natCast] at h2 h3
  obtain ⟨q1, ⟨s', q2, q3⟩, q4, q5, q6⟩ := lay_fit (r := m) h1 (Nat.lt_succ_self _) hD
  have hg : lyG ⟨ns, (m : Int)⟩ = (lyT ns (nmG ns m) (ns.length + 1) m []).1 := by unfold lyG; rw [if_pos h]; rfl
  have hS : (lyT ns (nmG ns m) (ns.length + 1) m []).2.2.length = szG ns m := by rw [q1]; rfl
  have hrl : ∀ n ∈ ns, ral n.kind n.text [] n.kids.length = true := by
    have hq' := h1
    unfold rgG at hq'
    rw [Bool.and_eq_true, Bool.and_eq_true, Bool.and_eq_true, Bool.and_eq_true, decide_eq_true_iff, al1_iff] at hq'
    obtain ⟨⟨⟨⟨_, _⟩, g3⟩, _⟩, _⟩ := hq'
    exact fun n hn => (ral_of (g3 n hn).1 (g3 n hn).2).2
  have hn := (dg_nst (ns := ns) (nm := nmG ns m) (ls_no hrl) 64 (ns.length + 1) m 0 ([], 0) (Nat.le_refl _)).1 h2
  have hz := (bz_ly (B := 9223372036854775807 + (ns.map fun n => n.text.length).sum) (nm := nmG ns m) (kd_lt f3 rfl) (fun a ha => by
    have : ∀ l : List Nd, ∀ n ∈ l, n.text.length ≤ (l.map fun n => n.text.length).sum := fun l => by
      induction l with
      | nil => intro n hn; cases hn
      | cons x l ih =>
        intro n hn
        rw [List.map_cons, List.sum_cons]
        rcases List.mem_cons.1 hn with rfl | hn
        · omega
        · have := ih n hn; omega
    have := this ns _ (mem_getD ha)
    omega) (fun a => by have := nmG_len ns m a (by have := len_le (odG_nd ns m) (odG_lt f3 hm); omega); omega) (ns.length + 1) D hD m [] ⟨List.nodup_nil, fun b hb => by cases hb⟩ hm (by simp)).2
  refine ⟨h1, ?_, ?_, ?_, ?_, ?_, ?_, ?_, ?_⟩
  · rw [Int.toNat_natCast]; exact hS
  · rw [Int.toNat_natCast]; exact h3
  · rw [hg]; exact q4 hn.2 (by rw [hS]; exact h3)
  · rw [hg]; unfold cmR; rw [q2]
  · rw [hg, Int.toNat_natCast]; unfold cmR; rw [q2]; exact q3
  · rw [hg, Int.toNat_natCast]; exact q5
  · rw [hg, Int.toNat_natCast, q6]; exact hS
  · rw [hg, Int.toNat_natCast, hz]; exact hS
/-- short texts are laid to short ones -/
theorem ly_bri {g : Gr} (h : lyE g = 0) {B D : Nat} (hB : 65536 ≤ B) (hx : ∀ n ∈ g.nodes, n.text.length ≤ B) (hD : g.nodes.length + 1 ≤ D) : bri B D (lyG g) := by
  obtain ⟨h1, h2, h3⟩ := lyE_zero h
  obtain ⟨ns, r⟩ := g
  simp only at h2 h3 hD hx
  obtain ⟨f1, f2, f3⟩ := rgG_facts h1
  obtain ⟨m, rfl, hm⟩ := isP_nat f2
  have hg : lyG ⟨ns, (m : Int)⟩ = (lyT ns (nmG ns m) (ns.length + 1) m []).1 := by unfold lyG; rw [if_pos h]; rfl
  rw [hg]
  exact (bz_ly (nm := nmG ns m) (kd_lt f3 rfl) (fun a ha => hx _ (mem_getD ha)) (fun a => by have := nmG_len ns m a (by have := len_le (odG_nd ns m) (odG_lt f3 hm); omega); omega) (ns.length + 1) D hD m [] ⟨List.nodup_nil, fun b hb => by cases hb⟩ hm (by simp)).1
theorem LyOk.ok {g : Gr} {D : Nat} (h : LyOk g D) : cmOk D (lyG g) = true := by
  unfold cmOk
  rw [h.right, h.err]
  rfl
end Go.Proofs.YtaphijgbebhdlaaGreatDoor.Grp
end
