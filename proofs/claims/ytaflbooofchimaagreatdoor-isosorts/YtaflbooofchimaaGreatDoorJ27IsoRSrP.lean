/- Several texts as one: IsoRSrP, IsoRSr. -/
import Derived.Test.YtaflbooofchimaaGreatDoorJ13IsoPlain
import Derived.Test.YtaflbooofchimaaGreatDoorLJ15IsoKey
import Derived.Test.YtaflbooofchimaaGreatDoorJ14GraphCmSI
import Derived.Deep.RegionLaw
import Derived.Deep.RegionHeld3
import Derived.Maps.AppendAt
import Derived.OpenShut
section
/- Entries put in order one by one: plain facts. -/
namespace Go.Proofs.YtaflbooofchimaaGreatDoor.Alk
open Utf Rws Pln Flw Grp
set_option linter.unusedSimpArgs false
set_option linter.unusedVariables false

theorem bless_cb : ∀ a b : List UInt8, Op.bytesLess a b = decide (Lib.compareBytes a b < 0)
  | [], [] => rfl
  | _ :: _, [] => rfl
  | [], _ :: _ => rfl
  | a :: x, b :: y => by
    have ih := bless_cb x y
    unfold Op.bytesLess Lib.compareBytes
    rw [ih]
    by_cases h1 : a < b
    · rw [if_pos h1]; simp [h1]
    · rw [if_neg h1]
      by_cases h2 : b < a
      · rw [if_pos h2]
        have h3 : ¬ a = b := fun e => by subst e; exact h1 h2
        simp [h1, h3]
      · rw [if_neg h2]
        have h3 : a = b := by
          apply UInt8.toNat_inj.1
          have q1 : ¬ a.toNat < b.toNat := h1
          have q2 : ¬ b.toNat < a.toNat := h2
          omega
        simp [h1, h3]
theorem bl_irr (a : List UInt8) : Op.bytesLess a a = false := by rw [bless_cb, cb_irr]; rfl
theorem bl_tri (a b : List UInt8) : (Op.bytesLess a b = true ∧ Op.bytesLess b a = false ∧ (b == a) = false) ∨ a = b ∨ (Op.bytesLess b a = true ∧ Op.bytesLess a b = false) := by
  rw [bless_cb, bless_cb]
  by_cases h1 : Lib.compareBytes a b < 0
  · have h2 : ¬ Lib.compareBytes b a < 0 := fun h => by
      have := cb_trans a b a h1 h
      rw [cb_irr] at this
      omega
    refine .inl ⟨decide_eq_true h1, decide_eq_false h2, ?_⟩
    refine beq_false_of_ne fun e => ?_
    subst e
    exact h2 h1
  · by_cases h2 : Lib.compareBytes b a < 0
    · exact .inr (.inr ⟨decide_eq_true h2, decide_eq_false h1⟩)
    · exact .inr (.inl (cb_tri a b h1 h2))
section
variable {α : Type}
theorem insK_at {f : α → Lb} {e : α} (d : α) : ∀ (E : List α) (t : Nat), t ≤ E.length → (∀ s, s < t → ltK (f e) (f (E.getD s d)) = false) → (t < E.length → ltK (f e) (f (E.getD t d)) = true) → insK f e E = E.take t ++ e :: E.drop t
  | [], t, h, _, _ => by
    have : t = 0 := by simpa using h
    subst this; rfl
  | m :: E, 0, _, _, h => by
    have := h (by simp)
    rw [List.getD_cons_zero] at this
    rw [insK, if_pos this]; rfl
  | m :: E, t + 1, hl, hb, h => by
    have h0 := hb 0 (by omega)
    rw [List.getD_cons_zero] at h0
    rw [insK, if_neg (by rw [h0]; simp), insK_at d E t (by simpa using hl) (fun s hs => by have := hb (s + 1) (by omega); rwa [List.getD_cons_succ] at this) (fun ht => by have := h (by simpa using ht); rwa [List.getD_cons_succ] at this)]
    rfl
/-- the first entries, put in order -/
def srJ (f : α → Lb) (E : List α) (j : Nat) : List α := srt f (E.take j)
theorem srJ_succ (f : α → Lb) (E : List α) (j : Nat) (h : j < E.length) : srJ f E (j + 1) = insK f E[j] (srJ f E j) := by
  unfold srJ srt
  rw [List.take_succ_eq_append_getElem h, List.foldl_append]
  rfl
theorem srJ_len (f : α → Lb) (E : List α) (j : Nat) (h : j ≤ E.length) : (srJ f E j).length = j := by
  unfold srJ
  rw [(srt_perm f (E.take j)).length_eq, List.length_take]
  omega
theorem fla_tk : ∀ (E : List (α × α)) (t : Nat), (fla E).take (2 * t) = fla (E.take t)
  | [], t => by simp [fla]
  | p :: E, 0 => rfl
  | p :: E, t + 1 => by
    rw [fla, List.take_succ_cons, fla, show 2 * (t + 1) = 2 * t + 1 + 1 by omega, List.take_succ_cons, List.take_succ_cons, fla_tk E t]
theorem fla_dr : ∀ (E : List (α × α)) (t : Nat), (fla E).drop (2 * t) = fla (E.drop t)
  | [], t => by simp [fla]
  | p :: E, 0 => rfl
  | p :: E, t + 1 => by
    rw [fla, List.drop_succ_cons, show 2 * (t + 1) = 2 * t + 1 + 1 by omega, List.drop_succ_cons, List.drop_succ_cons, fla_dr E t]
theorem fla_memR : ∀ (E : List (α × α)) (a : α), a ∈ fla E → ∃ p ∈ E, a = p.1 ∨ a = p.2
  | [], a, h => absurd h (by simp [fla])
  | p :: E, a, h => by
    rw [fla] at h
    simp only [List.mem_cons] at h
    rcases h with h | h | h
    · exact ⟨p, by simp, .inl h⟩
    · exact ⟨p, by simp, .inr h⟩
    · obtain ⟨q, hq, e⟩ := fla_memR E a h
      exact ⟨q, by simp [hq], e⟩
theorem ens_memR : ∀ (l : List α) (p : α × α), p ∈ ens l → p.1 ∈ l ∧ p.2 ∈ l
  | [], p, h => absurd h (by simp [ens])
  | [_], p, h => absurd h (by simp [ens])
  | a :: b :: t, p, h => by
    rw [ens] at h
    rcases List.mem_cons.1 h with h | h
    · rw [h]; exact ⟨by simp, by simp⟩
    · have := ens_memR t p h
      exact ⟨by simp [this.1], by simp [this.2]⟩
end
/-- what stands in order is of the Kids -/
theorem srJ_mem {f : Int × Int → Lb} {l : List Int} {j : Nat} {a : Int} (h : a ∈ fla (srJ f (ens l) j)) : a ∈ l := by
  obtain ⟨p, hp, e⟩ := fla_memR _ _ h
  have h2 := (srt_perm f ((ens l).take j)).mem_iff.1 hp
  have h3 := ens_memR l p (List.mem_of_mem_take h2)
  rcases e with e | e
  · rw [e]; exact h3.1
  · rw [e]; exact h3.2
/-- one entry more -/
theorem srJ_next {f : Int × Int → Lb} {l : List Int} {j t : Nat} (hj : 2 * j + 1 < l.length) (ht : t ≤ j) (hb : ∀ s, s < t → ltK (f (l.getD (2 * j) 0, l.getD (2 * j + 1) 0)) (f ((srJ f (ens l) j).getD s (0, 0))) = false)
    (h : t < j → ltK (f (l.getD (2 * j) 0, l.getD (2 * j + 1) 0)) (f ((srJ f (ens l) j).getD t (0, 0))) = true) :
    fla (srJ f (ens l) (j + 1)) = (fla (srJ f (ens l) j)).take (2 * t) ++ [l.getD (2 * j) 0, l.getD (2 * j + 1) 0] ++ (fla (srJ f (ens l) j)).drop (2 * t) := by
  have hl : j < (ens l).length := by rw [ens_len]; omega
  have e := ens_at (0 : Int) l j hj
  rw [List.getD_eq_getElem?_getD, List.getElem?_eq_getElem hl] at e
  simp only [Option.getD_some] at e
  have hlen := srJ_len f (ens l) j (Nat.le_of_lt hl)
  rw [srJ_succ f (ens l) j hl, e, insK_at (0, 0) _ t (by omega) hb (by rw [hlen]; exact h), fla_app, fla, fla_tk, fla_dr, List.append_assoc]
  rfl
theorem srJ_all {f : Int × Int → Lb} {l : List Int} {j : Nat} (h : l.length / 2 ≤ j) : srJ f (ens l) j = srt f (ens l) := by
  unfold srJ
  rw [List.take_of_length_le (by rw [ens_len]; exact h)]
end Go.Proofs.YtaflbooofchimaaGreatDoor.Alk
end

section
/- The document's sorted, by its contract. -/
namespace Go.Proofs.YtaflbooofchimaaGreatDoor.Alk
open Utf Rws Pln Flw Grp
open Go.RowKit Go.Shelf
set_option linter.unusedSimpArgs false
set_option linter.unusedVariables false
set_option maxRecDepth 100000
set_option maxHeartbeats 8000000

theorem step_append_or {P : Program} {ops : Array Oper} {o : Oper} {a : Act} {w : World} {K : Act → World → Prop} {Q : Exit → Act → World → Prop} {E : Prop}
    (hg : o.guard = none) (s x : Operand) (t : TypeId) (hop : o.op = Op.call { callee := Callee.builtin Builtin.append, args := #[s, x], argTypes := #[t, t] }) (base : Nat)
    (e : TypeId) (i : TypeInfo) (z : Value) (size bytes : Nat) (h1 : P.underlying t = some (.slice e)) (h2 : P.info? e = some i) (h3 : i.zero = some z) (h4 : i.size = size) (h5 : i.bytes = bytes) (h6 : z.cells.size = size) (h7 : 0 < size)
    (v : Value) (n : Nat) (xs : List Value) (hs : a.eval s = v) (hown : w.ownsRow base e size v n xs)
    (sa : Option Addr) (m c : Nat) (news : List Value) (hx : a.eval x = .slice sa m c) (hnone : sa = none → m = 0 ∧ c = 0) (hn : news.length = m * size) (hc : ∀ ad, sa = some ad → ∀ j u, news[j]? = some u → w.cell? (ad.add j) = some u) (h1c : ∀ u ∈ news, u.oneCell' = true)
    (b1 : n + m ≤ maxLen) (b2 : (n + m) * bytes ≤ 140737488355328) (hbase : base ≤ w.heap.size)
    (hK : ∀ v' w', w'.ownsRow base e size v' (n + m) (xs ++ news) → w.grownBy w' v.ownBlock → K (a.put o.dst v') w') :
    if Region.wanted o (yielded ops a.tmps) = true then Oper.wp P o a w K Q else E := by
  have hw : Region.wanted o (yielded ops a.tmps) = true := by simp [Region.wanted, hg]
  rw [if_pos hw]
  cases sa with
  | some ad =>
    obtain ⟨v', w', hrun, r1, r2, _⟩ := run_append_own (P := P) w base t o.type e i z size bytes h1 h2 h3 h4 h5 h6 h7 v n xs hown ad m c news hn (hc ad rfl) h1c b1 b2 hbase
    unfold Oper.wp
    simp [execOp, hop, resolve, invoke, builtin, hs, hx, hrun, Result.andThen]
    exact hK v' w' r1 r2
  | none =>
    obtain ⟨rfl, rfl⟩ := hnone rfl
    obtain rfl : news = [] := List.eq_nil_of_length_eq_zero (by omega)
    have hrun := run_append_owned_none (P := P) (w := w) base t o.type e i size h1 h2 v n xs hown
    unfold Oper.wp
    simp [execOp, hop, resolve, invoke, builtin, hs, hx, hrun, Result.andThen]
    exact hK v w (by simpa using hown) (World.grownBy.refl w _)
theorem cellsLs {w : World} {t : TypeId} (l : List Value) : ∀ j u, l[j]? = some u → (w.alloc (.cells l.toArray t)).cell? ((⟨w.heap.size, 0, none⟩ : Addr).add j) = some u := by
  intro j u hu
  rw [Utf.add_plain, Lib.cell_of_heap (heap_alloc_new w (.cells l.toArray t))]
  simpa using hu
theorem cellsGs {w W w' : World} {t : TypeId} {g : Nat} {row : Option Nat} (l : List Value) (hg : W.grownBy w' row) (hW : W.heap = (w.alloc (.cells l.toArray t)).heap) (hr : row = none) (hgg : g = w.heap.size) : ∀ j u, l[j]? = some u → w'.cell? ((⟨g, 0, none⟩ : Addr).add j) = some u := by
  subst hr hgg
  intro j u hu
  have h1 : w'.heap[w.heap.size]? = some (.cells l.toArray t) := by
    rw [hg.block w.heap.size (by rw [hW, World.size_alloc]; omega) (by simp), hW]
    exact heap_alloc_new w _
  rw [Utf.add_plain, Lib.cell_of_heap h1]
  simpa using hu
def ivs (l : List Int) : List Value := l.map fun a => Value.int .i64 a
theorem ivs_one (l : List Int) : ∀ u ∈ ivs l, u.oneCell' = true := by
  intro u hu
  obtain ⟨a, _, rfl⟩ := List.mem_map.1 hu
  rfl
theorem ivs_in {w : World} {b off : Nat} {l : List Int} (hc : ∀ i, i < l.length → w.cell? ⟨b, off + i, none⟩ = some (.int .i64 (l.getD i 0))) (j : Nat) (u : Value) (hu : (ivs l)[j]? = some u) : w.cell? ((⟨b, off, none⟩ : Addr).add j) = some u := by
  unfold ivs at hu
  rw [List.getElem?_map] at hu
  cases h : l[j]? with
  | none => rw [h] at hu; cases hu
  | some a =>
    rw [h] at hu
    simp only [Option.map_some, Option.some.injEq] at hu
    obtain ⟨hj, he⟩ := List.getElem?_eq_some_iff.1 h
    rw [Utf.add_plain, hc j hj, List.getD_eq_getElem?_getD, h, ← hu]
    rfl
theorem own_monoS {w : World} {B B' : Nat} {e : TypeId} {s : Nat} {v : Value} {n : Nat} {xs : List Value} (h : w.ownsRow B e s v n xs) (hB : B' ≤ B) : w.ownsRow B' e s v n xs := by
  refine ⟨h.1, ?_⟩
  rcases h.2 with q | ⟨g, cap, cur, q, hb, r⟩
  · exact .inl q
  · exact .inr ⟨g, cap, cur, q, Nat.le_trans hB hb, r⟩
theorem own_nilS {w : World} {B : Nat} {e : TypeId} {s n cap : Nat} {ad : Option Addr} {xs : List Value} (h : w.ownsRow B e s (.slice ad n cap) n xs) : ad = none → cap = 0 := by
  intro e
  subst e
  rcases h.2 with ⟨q, _⟩ | ⟨g, c, cur, q, _⟩
  · injection q
  · cases q
/-- what is under way: the graph's box, and the row that was made last -/
structure SoS (w W : World) (K0 : Nat) (ad : Option Addr) (len cap : Nat) (r : Int) (ns : List Nd) (ov : Value) (ol : List Int) : Prop where
  g : AgS w W K0 ad len cap r ns
  o : W.ownsRow w.heap.size 3 1 ov ol.length (ivs ol)
theorem SoS.later {w W W' : World} {K0 : Nat} {ad : Option Addr} {len cap : Nat} {r : Int} {ns : List Nd} {ov : Value} {ol : List Int} (h : SoS w W K0 ad len cap r ns ov ol) (hb : Below W.heap.size W W') : SoS w W' K0 ad len cap r ns ov ol :=
  ⟨h.g.later hb, own_keep h.o fun g hg => hb.block g (own_block h.o hg).2⟩
def SrRes (w : World) (ol : List Int) (e : Ending) (W' : World) : Prop := ∃ (oa : Option Addr) (olen ocap : Nat), e = .returned (.slice oa olen ocap) ∧ Hid (olen = ol.length ∧ W'.ownsRow w.heap.size 3 1 (.slice oa olen ocap) ol.length (ivs ol) ∧ Below w.heap.size w W')
theorem rsorted_any {w : World} {ad kad : Option Addr} {len cap klen kcap : Nat} {r : Int} {ns : List Nd} {l : List Int} (hlen : len ≤ 4096) (hG : GrV w (gv ad len cap r) ⟨ns, r⟩) (hI : IAt w kad klen l) (hkl : klen ≤ 1000000000) (hks : ∀ a ∈ l, isP len a = true) :
    Calls Tryz.prog 30 #[gv ad len cap r, .slice kad klen kcap] w (SrRes w (fla (srt (fun p => kp ns p.1) (ens l)))) := by
  obtain ⟨RS, HRS⟩ : ∃ RS, Hid (RS = fla (srt (fun p => kp ns p.1) (ens l))) := ⟨_, rfl⟩
  rw [← HRS.out]
  obtain ⟨SJ, HSJ⟩ : ∃ SJ : Nat → List Int, Hid (SJ = fun j => fla (srJ (fun p => kp ns p.1) (ens l) j)) := ⟨_, rfl⟩
  have HL : Hid (klen = l.length) := hI.1
  have HSL : Hid (∀ j, 2 * j ≤ klen → (SJ j).length = 2 * j) := fun j hj => by
    have := HL.out
    rw [HSJ.out]
    show (fla _).length = _
    rw [fla_len, srJ_len _ _ _ (by rw [ens_len]; omega)]
  have HSM : Hid (∀ j k, k < (SJ j).length → ∃ p : Nat, (SJ j).getD k 0 = (p : Int) ∧ p < len) := fun j k hk => by
    have hm := mem_getI hk
    rw [HSJ.out] at hm ⊢
    exact isP_nat (hks _ (srJ_mem hm))
  have HSA : Hid (∀ j, klen < 2 * j + 2 → SJ j = RS) := fun j hj => by
    have := HL.out
    rw [HSJ.out, HRS.out]
    show fla _ = _
    rw [srJ_all (by omega)]
  -- the entry that comes next, held against one that stands
  have HEC : Hid (∀ j t, 2 * j + 1 < klen → t < j → ∀ (nk mk' : Int) (nx mx : Ln), kp ns (l.getD (2 * j) 0) = (nk, nx) → kp ns ((SJ j).getD (2 * t) 0) = (mk', mx) → ltK (kp ns (l.getD (2 * j) 0)) (kp ns ((srJ (fun p => kp ns p.1) (ens l) j).getD t (0, 0)).1) = (decide (nk < mk') || (decide (nk = mk') && Op.bytesLess nx mx))) := fun j t hj ht nk mk' nx mx h1 h2 => by
    have e : (SJ j).getD (2 * t) 0 = ((srJ (fun p => kp ns p.1) (ens l) j).getD t (0, 0)).1 := by
      have := HL.out
      rw [HSJ.out]
      exact (fla_at (0 : Int) _ t (by rw [srJ_len _ _ _ (by rw [ens_len]; omega)]; exact ht)).1
    rw [← e, h1, h2, bless_cb, Bool.eq_iff_iff, ltK_iff]
    simp
  have HSN : Hid (∀ j t, 2 * j + 1 < klen → t ≤ j → (∀ s, s < t → ltK (kp ns (l.getD (2 * j) 0)) (kp ns ((srJ (fun p => kp ns p.1) (ens l) j).getD s (0, 0)).1) = false) → (t < j → ltK (kp ns (l.getD (2 * j) 0)) (kp ns ((srJ (fun p => kp ns p.1) (ens l) j).getD t (0, 0)).1) = true) → SJ (j + 1) = (SJ j).take (2 * t) ++ [l.getD (2 * j) 0, l.getD (2 * j + 1) 0] ++ (SJ j).drop (2 * t)) := fun j t hj ht h1 h2 => by
    have := HL.out
    rw [HSJ.out]
    exact srJ_next (f := fun p => kp ns p.1) (by omega) ht h1 h2
  have HP : Hid (∀ t, t < klen → ∃ p : Nat, l.getD t 0 = (p : Int) ∧ p < len) := fun t ht => by
    have h2 := HL.out
    exact isP_nat (hks _ (mem_getI (by omega)))
  have HI : Hid (IAt w kad klen l) := hI
  have hA := AgS.new (Below.refl _ _) hG
  have HNN : Hid (NAt w ad len ns) := by obtain ⟨_, _, _, e, _, _, _, hN⟩ := hG; cases e; exact hN
  have HSZ : Hid (fla (srJ (fun p => kp ns p.1) (ens l) 0) = []) := rfl
  have HS0 : Hid (SJ 0 = []) := by rw [HSJ.out]; exact HSZ.out
  obtain ⟨i1, hi1, hy0, hy1, hy2⟩ := info_parts Tryz.infoInt
  clear hI hks HRS HSJ hG HSZ
  go_enter Tryz.func30, Tryz.ntmps30
  go_wp2_with fail
  obtain ⟨K0, hK0⟩ : ∃ K0, K0 = w.heap.size := ⟨_, rfl⟩
  rw [← hK0] at hA ⊢
  clear hK0
  have H0 : Hid (AgS w _ K0 ad len cap r ns) := hA
  clear hA
  generalize w.alloc (.cells #[.slice ad len cap, .int .i64 r] 24) = W0 at H0 ⊢
  go_loopw [5, 6] (fun ov iv wr => ∃ (oa : Option Addr) (olen ocap q : Nat), ov = .slice oa olen ocap ∧ q ≤ klen + 1 ∧ iv = .int .i64 (q : Int) ∧ Hid (∃ j, q = 2 * j ∧ olen = q ∧ q ≤ klen ∧ SoS w wr K0 ad len cap r ns (.slice oa olen ocap) (SJ j))) (fun _ iv _ => klen + 2 - (intOf iv).toNat)
  case atStart => exact ⟨none, 0, 0, 0, rfl, Nat.zero_le _, rfl, 0, rfl, rfl, Nat.zero_le _, H0.out, by rw [HS0.out]; exact World.ownsRow_nil _ _ _ _⟩
  case round =>
    obtain ⟨oa, olen, ocap, q, rfl, hq, rfl, HS⟩ := hrel
    clear H0
    by_cases hlt : q + 1 < klen
    · obtain ⟨j, hj, holq, hqk, hSo⟩ := HS.out
      subst holq
      have HJ : Hid (olen = 2 * j ∧ (SJ j).length = olen) := ⟨hj, by rw [HSL.out j (by omega)]; exact hj.symm⟩
      have HSo : Hid (SoS w wr K0 ad len cap r ns (.slice oa olen ocap) (SJ j)) := hSo
      have hcap : olen ≤ ocap ∧ ocap ≤ maxLen := by
        have := HSo.out.o
        rw [HJ.out.2] at this
        obtain ⟨_, _, e, h1, h2⟩ := own_shapeN this
        cases e
        exact ⟨h1, h2⟩
      have HCN : Hid (oa = none → ocap = 0) := by
        have := HSo.out.o
        rw [HJ.out.2] at this
        exact own_nilS this
      clear HS hSo hj hqk
      obtain ⟨hoc1, hoc2⟩ := hcap
      have hoc3 : ocap ≤ 9223372036854775807 := hoc2
      clear hoc2
      have hlt2 : (olen : Int) + 1 < (klen : Int) := by omega
      have hq0 : (0 : Int) ≤ (olen : Int) := by omega
      have hq1 : (olen : Int) < (klen : Int) := by omega
      obtain ⟨kb, koff, rfl, hkb, hkc⟩ := HI.out.2 (by omega)
      have HKC : Hid (∀ W, Below w.heap.size w W → W.cell? ⟨kb, koff + olen, none⟩ = some (.int .i64 (l.getD olen 0)) ∧ W.cell? ⟨kb, koff + (olen + 1), none⟩ = some (.int .i64 (l.getD (olen + 1) 0))) := fun W h => ⟨(h.cell (p := ⟨kb, koff + olen, none⟩) hkb).trans (hkc olen (by omega)).2, (h.cell (p := ⟨kb, koff + (olen + 1), none⟩) hkb).trans (hkc (olen + 1) hlt).2⟩
      obtain ⟨p, hp, hpl⟩ := HP.out olen (by omega)
      obtain ⟨b, off, rfl, hb, hc⟩ := HNN.out.2 (by omega)
      have HCN2 : Hid (∀ W, Below w.heap.size w W → ∀ p, p < len → ∃ pad plen pcap, W.cell? ⟨b, off + p * 3, none⟩ = some (.int .i64 (ns.getD p nd0).kind) ∧ W.cell? ⟨b, off + p * 3 + 1, none⟩ = some (.string (mk (ns.getD p nd0).text)) ∧ W.cell? ⟨b, off + p * 3 + 2, none⟩ = some (.slice pad plen pcap)) := fun W h p hp => by
        obtain ⟨pad, plen, pcap, _, _, _, _, _, z0, z1, z2⟩ := hc p hp
        exact ⟨pad, plen, pcap, (h.cell (p := ⟨b, off + p * 3, none⟩) hb).trans z0, (h.cell (p := ⟨b, off + p * 3 + 1, none⟩) hb).trans z1, (h.cell (p := ⟨b, off + p * 3 + 2, none⟩) hb).trans z2⟩
      obtain ⟨pad, plen, pcap, y0, y1, y2⟩ := HCN2.out wr HSo.out.g.bl p hpl
      have x0 := (HKC.out wr HSo.out.g.bl).1
      rw [hp] at x0
      obtain ⟨c0, c1⟩ := HSo.out.g.b.c2
      have hp0 : (0 : Int) ≤ (p : Int) := by omega
      have hp2 : (p : Int) < (len : Int) := by omega
      obtain ⟨pk, hpk⟩ : ∃ pk, pk = (ns.getD p nd0).kind := ⟨_, rfl⟩
      obtain ⟨px, hpx⟩ : ∃ px, px = (ns.getD p nd0).text := ⟨_, rfl⟩
      have HKP : Hid (kp ns (l.getD olen 0) = (pk, px) ∧ l.getD olen 0 = (p : Int)) := by
        refine ⟨?_, hp⟩
        rw [hp, hpk, hpx]
        unfold kp
        rw [Int.toNat_natCast]
      rw [← hpk] at y0
      rw [← hpx] at y1
      clear hpk hpx hc hkc hp hkb hb
      go_wp2_with fail
      go_region_held3 (fun w' => w'.cell? ⟨K0, 0, none⟩ = some (.slice (some ⟨b, off, none⟩) len cap) ∧ w'.cell? ⟨kb, koff + olen, none⟩ = some (.int .i64 (p : Int)) ∧ w'.cell? ⟨b, off + p * 3, none⟩ = some (.int .i64 pk) ∧ w'.cell? ⟨b, off + p * 3 + 1, none⟩ = some (.string (mk px)) ∧ w'.cell? ⟨b, off + p * 3 + 2, none⟩ = some (.slice pad plen pcap)) (go_keep) (fail)
      have HX : Hid (SoS w (wr.alloc (.cells #[.int .i64 pk, .string (mk px), .slice pad plen pcap] 35)).drew K0 (some ⟨b, off, none⟩) len cap r ns (.slice oa olen ocap) (SJ j) ∧ Bx (wr.alloc (.cells #[.int .i64 pk, .string (mk px), .slice pad plen pcap] 35)).drew wr.heap.size #[.int .i64 pk, .string (mk px), .slice pad plen pcap] 35) := ⟨HSo.out.later (below_alloc _ _).drew, Bx.new _ _ _⟩
      clear HSo x0 y0 y1 y2 c0 c1
      generalize (wr.alloc (.cells #[.int .i64 pk, .string (mk px), .slice pad plen pcap] 35)).drew = W2 at HX ⊢
      generalize wr.heap.size = T at HX ⊢
      go_wp2_with fail
      go_loopw [8] (fun kv wr => ∃ k : Nat, k ≤ olen + 1 ∧ kv = .int .i64 (k : Int) ∧ Hid (∃ t, k = 2 * t ∧ t ≤ j ∧ (∀ s, s < t → ltK (kp ns (l.getD (2 * j) 0)) (kp ns ((srJ (fun p => kp ns p.1) (ens l) j).getD s (0, 0)).1) = false) ∧ SoS w wr K0 (some ⟨b, off, none⟩) len cap r ns (.slice oa olen ocap) (SJ j) ∧ Bx wr T #[.int .i64 pk, .string (mk px), .slice pad plen pcap] 35)) (fun kv _ => olen + 2 - (intOf kv).toNat)
      case atStart => exact ⟨0, Nat.zero_le _, rfl, 0, rfl, Nat.zero_le _, fun s h => absurd h (by omega), HX.out⟩
      case round =>
        obtain ⟨k, hk, rfl, HK⟩ := hrel
        clear HX
        by_cases hkl : k < olen
        case' neg =>
          have hkl2 : ¬ (k : Int) < (olen : Int) := by omega
          have HNX : Hid (SJ (j + 1) = (SJ j).take k ++ [l.getD olen 0, l.getD (olen + 1) 0] ++ (SJ j).drop k) := by
            obtain ⟨t, t1, t2, t3, _⟩ := HK.out
            have hJ := HJ.out.1
            have := HSN.out j t (by omega) t2 t3 (fun h => absurd h (by omega))
            rw [← t1, ← hJ] at this
            exact this
          have HSo3 : Hid (SoS w wr K0 (some ⟨b, off, none⟩) len cap r ns (.slice oa olen ocap) (SJ j)) := by
            obtain ⟨t, t1, t2, t3, t4, _⟩ := HK.out
            exact t4
          have hkle : k ≤ olen := by
            obtain ⟨t, t1, t2, _⟩ := HK.out
            have := HJ.out.1
            omega
          clear HK
          go_upto_region 11 with fail
          generalize wr = W3 at HSo3 ⊢
        case' pos =>
          have hk0 : (0 : Int) ≤ (k : Int) := by omega
          have hk1 : (k : Int) < (olen : Int) := by omega
          obtain ⟨m, hm, hml⟩ := HSM.out j k (by rw [HJ.out.2]; exact hkl)
          obtain ⟨t, ht, htj, htb, hSo, hBx⟩ := HK.out
          obtain ⟨ob, ooff, rfl, hob, hoc⟩ := (iat_own (show wr.ownsRow w.heap.size 3 1 (.slice oa olen ocap) olen ((SJ j).map fun a => Value.int .i64 a) from by have z := hSo.o; rw [HJ.out.2] at z; exact z) (fun a ha => by
            obtain ⟨i, hi, rfl⟩ := List.getElem_of_mem ha
            obtain ⟨z, hz, hzl⟩ := HSM.out j i hi
            rw [List.getD_eq_getElem?_getD, List.getElem?_eq_getElem hi] at hz
            simp only [Option.getD_some] at hz
            rw [hz]
            constructor <;> omega)).1.1.2 (by omega)
          have x0 := (hoc k hkl).2
          rw [hm] at x0
          obtain ⟨mad, mlen, mcap, y0, y1, y2⟩ := HCN2.out wr hSo.g.bl m hml
          obtain ⟨c0, c1⟩ := hSo.g.b.c2
          have hm0 : (0 : Int) ≤ (m : Int) := by omega
          have hm2 : (m : Int) < (len : Int) := by omega
          obtain ⟨mk', hmk⟩ : ∃ mk', mk' = (ns.getD m nd0).kind := ⟨_, rfl⟩
          obtain ⟨mx, hmx⟩ : ∃ mx, mx = (ns.getD m nd0).text := ⟨_, rfl⟩
          have HMP : Hid (ltK (kp ns (l.getD (2 * j) 0)) (kp ns ((srJ (fun p => kp ns p.1) (ens l) j).getD t (0, 0)).1) = (decide (pk < mk') || (decide (pk = mk') && Op.bytesLess px mx))) := HEC.out j t (by have := HJ.out.1; omega) (by have := HJ.out.1; omega) _ _ _ _ (by rw [← HJ.out.1]; exact HKP.out.1) (by
            rw [← ht, hm, hmk, hmx]
            unfold kp
            rw [Int.toNat_natCast])
          rw [← hmk] at y0
          rw [← hmx] at y1
          have HT : Hid (k = 2 * t ∧ t < j ∧ ∀ s, s < t → ltK (kp ns (l.getD (2 * j) 0)) (kp ns ((srJ (fun p => kp ns p.1) (ens l) j).getD s (0, 0)).1) = false) := ⟨ht, by have := HJ.out.1; omega, htb⟩
          have HSo : Hid (SoS w wr K0 (some ⟨b, off, none⟩) len cap r ns (.slice (some ⟨ob, ooff, none⟩) olen ocap) (SJ j) ∧ Bx wr T #[.int .i64 pk, .string (mk px), .slice pad plen pcap] 35) := ⟨hSo, hBx⟩
          clear hmk hmx hm hoc ht htj htb hSo hBx HK hob
          go_wp2_with fail
          go_region_held3 (fun w' => w'.cell? ⟨K0, 0, none⟩ = some (.slice (some ⟨b, off, none⟩) len cap) ∧ w'.cell? ⟨ob, ooff + k, none⟩ = some (.int .i64 (m : Int)) ∧ w'.cell? ⟨b, off + m * 3, none⟩ = some (.int .i64 mk') ∧ w'.cell? ⟨b, off + m * 3 + 1, none⟩ = some (.string (mk mx)) ∧ w'.cell? ⟨b, off + m * 3 + 2, none⟩ = some (.slice mad mlen mcap)) (go_keep) (fail)
          have HX : Hid ((SoS w (wr.alloc (.cells #[.int .i64 mk', .string (mk mx), .slice mad mlen mcap] 35)).drew K0 (some ⟨b, off, none⟩) len cap r ns (.slice (some ⟨ob, ooff, none⟩) olen ocap) (SJ j) ∧ Bx (wr.alloc (.cells #[.int .i64 mk', .string (mk mx), .slice mad mlen mcap] 35)).drew T #[.int .i64 pk, .string (mk px), .slice pad plen pcap] 35) ∧ Bx (wr.alloc (.cells #[.int .i64 mk', .string (mk mx), .slice mad mlen mcap] 35)).drew wr.heap.size #[.int .i64 mk', .string (mk mx), .slice mad mlen mcap] 35) := ⟨⟨HSo.out.1.later (below_alloc _ _).drew, HSo.out.2.later (below_alloc _ _).drew⟩, Bx.new _ _ _⟩
          clear HSo x0 y0 y1 y2 c0 c1
          generalize (wr.alloc (.cells #[.int .i64 mk', .string (mk mx), .slice mad mlen mcap] 35)).drew = W3 at HX ⊢
          generalize wr.heap.size = T3 at HX ⊢
          obtain ⟨g0, g1, g2⟩ := HX.out.1.2.c3
          obtain ⟨f0, f1, f2⟩ := HX.out.2.c3
          have HSo3 : Hid (SoS w W3 K0 (some ⟨b, off, none⟩) len cap r ns (.slice (some ⟨ob, ooff, none⟩) olen ocap) (SJ j)) := HX.out.1.1
          have HRD : Hid (ltK (kp ns (l.getD (2 * j) 0)) (kp ns ((srJ (fun p => kp ns p.1) (ens l) j).getD t (0, 0)).1) = false → ∃ t, k + 2 = 2 * t ∧ t ≤ j ∧ (∀ s, s < t → ltK (kp ns (l.getD (2 * j) 0)) (kp ns ((srJ (fun p => kp ns p.1) (ens l) j).getD s (0, 0)).1) = false) ∧ SoS w W3 K0 (some ⟨b, off, none⟩) len cap r ns (.slice (some ⟨ob, ooff, none⟩) olen ocap) (SJ j) ∧ Bx W3 T #[.int .i64 pk, .string (mk px), .slice pad plen pcap] 35) := fun hf => by
            obtain ⟨t1, t2, t3⟩ := HT.out
            refine ⟨t + 1, by omega, by omega, fun s hs => ?_, HX.out.1⟩
            by_cases e : s = t
            · rw [e]; exact hf
            · exact t3 s (by omega)
          have HNX0 : Hid (ltK (kp ns (l.getD (2 * j) 0)) (kp ns ((srJ (fun p => kp ns p.1) (ens l) j).getD t (0, 0)).1) = true → SJ (j + 1) = (SJ j).take k ++ [l.getD olen 0, l.getD (olen + 1) 0] ++ (SJ j).drop k) := fun hf => by
            obtain ⟨t1, t2, t3⟩ := HT.out
            have := HSN.out j t (by have := HJ.out.1; omega) (by omega) t3 (fun _ => hf)
            rw [← t1, ← HJ.out.1] at this
            exact this
          clear HX
          by_cases h1 : pk < mk'
          case' pos =>
            have HNX := (show Hid _ from HNX0.out (by rw [HMP.out, decide_eq_true h1]; rfl))
            clear HNX0 HRD HT HMP
            go_upto_region 11 with fail
            obtain ⟨oa, hoa⟩ : ∃ x, x = (some ⟨ob, ooff, none⟩ : Option Addr) := ⟨_, rfl⟩
            rw [← hoa] at HSo3 HCN ⊢
            clear hoa
          case' neg =>
            by_cases h2 : pk = mk'
            case neg =>
              have h3 : (mk' == pk) = false := by simp; exact fun e => h2 e.symm
              have HV := (show Hid _ from HRD.out (by rw [HMP.out, decide_eq_false h1, decide_eq_false h2]; rfl))
              clear HRD HMP HNX0 HSo3 HT HSL HSM HSA HEC HSN HP HI HNN HS0 HKC HCN2 HKP HCN h2
              go_wp2_with fail
              go_roundw
              case rel => exact ⟨k + 2, by omega, by go_num, HV⟩
              case measure => (simp [intOf] <;> omega)
            case' pos =>
              subst h2
              rcases bl_tri px mx with ⟨h4, h5, h6⟩ | h4 | ⟨h4, h5⟩
              case' inl =>
                have h7 : Op.bytesLess (mk mx).toList (mk px).toList = false := by rw [ByteArray.toList_eq, ByteArray.toList_eq, mk_data, mk_data]; exact h5
                have h8 : ((mk mx).toList == (mk px).toList) = false := by rw [ByteArray.toList_eq, ByteArray.toList_eq, mk_data, mk_data]; exact h6
                have HNX := (show Hid _ from HNX0.out (by rw [HMP.out, decide_eq_true rfl, h4]; simp))
                clear HNX0 HRD HT HMP h4 h5 h6
                go_upto_region 11 with fail
                obtain ⟨oa, hoa⟩ : ∃ x, x = (some ⟨ob, ooff, none⟩ : Option Addr) := ⟨_, rfl⟩
                rw [← hoa] at HSo3 HCN ⊢
                clear hoa
              case inr.inl =>
                have HV := (show Hid _ from HRD.out (by rw [HMP.out, decide_eq_false h1, h4, bl_irr]; simp))
                subst h4
                have h7 : Op.bytesLess (mk px).toList (mk px).toList = false := by rw [ByteArray.toList_eq, mk_data]; exact bl_irr _
                clear HRD HMP HNX0 HSo3 HT HSL HSM HSA HEC HSN HP HI HNN HS0 HKC HCN2 HKP HCN
                go_wp2_with fail
                go_roundw
                case rel => exact ⟨k + 2, by omega, by go_num, HV⟩
                case measure => (simp [intOf] <;> omega)
              case inr.inr =>
                have HV := (show Hid _ from HRD.out (by rw [HMP.out, decide_eq_false h1, h5]; simp))
                have h7 : Op.bytesLess (mk mx).toList (mk px).toList = true := by rw [ByteArray.toList_eq, ByteArray.toList_eq, mk_data, mk_data]; exact h4
                clear HRD HMP HNX0 HSo3 HT HSL HSM HSA HEC HSN HP HI HNN HS0 HKC HCN2 HKP HCN h4 h5
                go_wp2_with fail
                go_roundw
                case rel => exact ⟨k + 2, by omega, by go_num, HV⟩
                case measure => (simp [intOf] <;> omega)
        all_goals
          have hko : k ≤ olen := by omega
          have hkc : k ≤ ocap := by omega
          have HB0 : Hid (Below w.heap.size w W3) := HSo3.out.g.bl
          have HOA : Hid (0 < olen → ∃ b off, oa = some ⟨b, off, none⟩ ∧ b < W3.heap.size ∧ ∀ i, i < olen → W3.cell? ⟨b, off + i, none⟩ = some (.int .i64 ((SJ j).getD i 0))) := fun hp => by
            have z := HSo3.out.o
            rw [HJ.out.2] at z
            rcases z.2 with ⟨_, e⟩ | ⟨g, c, cur, e, hb, hh, _⟩
            · omega
            · cases e
              refine ⟨g, 0, rfl, (Array.getElem?_eq_some_iff.1 hh).1, fun i hi => ?_⟩
              rw [Nat.zero_add, z.cellAt i (by omega)]
              unfold ivs
              rw [List.getElem?_map, List.getD_eq_getElem?_getD, List.getElem?_eq_getElem (by rw [HJ.out.2]; exact hi)]
              rfl
          have HS1 : Hid (∀ W, Below W3.heap.size W3 W → ∀ ad, oa = some ad → ∀ jj u, (ivs ((SJ j).take k))[jj]? = some u → W.cell? (ad.add jj) = some u) := fun W hW ad ha jj u hu => by
            have h1 := (List.getElem?_eq_some_iff.1 hu).1
            unfold ivs at h1
            rw [List.length_map, List.length_take] at h1
            obtain ⟨b, off, had, hb, hc⟩ := HOA.out (by omega)
            rw [had] at ha
            cases ha
            refine ivs_in (fun i hi => ?_) jj u hu
            rw [List.length_take, HJ.out.2] at hi
            rw [List.getD_eq_getElem?_getD, List.getElem?_take, if_pos (by omega), ← List.getD_eq_getElem?_getD]
            exact (hW.cell (p := ⟨b, off + i, none⟩) hb).trans (hc i (by omega))
          obtain ⟨SA, hSA⟩ : ∃ SA : Option Addr, (if ocap = k then oa else Option.map (fun x => x.add k) oa) = SA := ⟨_, rfl⟩
          have HS3 : Hid (∀ W, Below W3.heap.size W3 W → ∀ ad, SA = some ad → ∀ jj u, (ivs ((SJ j).drop k))[jj]? = some u → W.cell? (ad.add jj) = some u) := fun W hW ad ha jj u hu => by
            have h1 := (List.getElem?_eq_some_iff.1 hu).1
            unfold ivs at h1
            rw [List.length_map, List.length_drop, HJ.out.2] at h1
            obtain ⟨b, off, had, hb, hc⟩ := HOA.out (by omega)
            rw [← hSA, if_neg (by omega), had] at ha
            simp only [Option.map_some, Option.some.injEq] at ha
            subst ha
            rw [Utf.add_plain]
            refine ivs_in (fun i hi => ?_) jj u hu
            rw [List.length_drop, HJ.out.2] at hi
            rw [List.getD_eq_getElem?_getD, List.getElem?_drop, ← List.getD_eq_getElem?_getD, show off + k + i = off + (k + i) by omega]
            exact (hW.cell (p := ⟨b, off + (k + i), none⟩) hb).trans (hc (k + i) (by omega))
          have HL1 : Hid ((ivs ((SJ j).take k)).length = k * 1) := by
            show _ = _
            unfold ivs
            rw [List.length_map, List.length_take, HJ.out.2]
            omega
          have HL3 : Hid ((ivs ((SJ j).drop k)).length = (olen - k) * 1) := by
            show _ = _
            unfold ivs
            rw [List.length_map, List.length_drop, HJ.out.2]
            omega
          have HN1 : Hid (oa = none → k = 0 ∧ ocap = 0) := fun e => by
            have h1 := HCN.out e
            exact ⟨by omega, h1⟩
          have HN3 : Hid (SA = none → olen - k = 0 ∧ ocap - k = 0) := fun e => by
            have e2 : oa = none := by
              rw [← hSA] at e
              split at e
              · exact e
              · simpa using e
            have h1 := HCN.out e2
            omega
          obtain ⟨X, hX⟩ : ∃ X, X = l.getD olen 0 := ⟨_, rfl⟩
          obtain ⟨Y, hY⟩ : ∃ Y, Y = l.getD (olen + 1) 0 := ⟨_, rfl⟩
          obtain ⟨x0, x1⟩ := HKC.out _ HB0.out
          rw [← hX] at x0
          rw [← hY] at x1
          rw [← hX, ← hY] at HNX
          have HKC3 : Hid (∀ W, Below w.heap.size w W → W.cell? ⟨kb, koff + olen, none⟩ = some (.int .i64 X) ∧ W.cell? ⟨kb, koff + (olen + 1), none⟩ = some (.int .i64 Y)) := fun W h => by rw [hX, hY]; exact HKC.out W h
          clear hX hY HKC HCN HSL HSM HEC HSN
          have hk0 : (0 : Int) ≤ (k : Int) := by omega
          have hk2 : (k : Int) ≤ (ocap : Int) := by omega
          have hk3 : (k : Int) ≤ (olen : Int) := by omega
          have hw1 : IntKind.i64.wrap ((olen : Int) + 1) = (olen : Int) + 1 := by
            have := Utf.wrap_small (olen + 1) (by omega)
            rw [show (olen : Int) + 1 = ((olen + 1 : Nat) : Int) by omega]
            exact this
          have hw2 : (0 : Int) ≤ (olen : Int) + 1 := by omega
          go_region_law (first
            | (refine step_append_or rfl (.const (.slice none 0 0)) (.tmp 60) 33 rfl W3.heap.size 3 i1 (.int .i64 0) 1 8 Tryz.underInts hi1 hy0 hy1 hy2 rfl (by decide) (.slice none 0 0) 0 [] (by first | rfl | simp [Act.eval, Act.put]) (World.ownsRow_nil _ _ _ _) oa k ocap (ivs ((SJ j).take k)) (by simp [Act.eval, Act.put]) HN1.out HL1.out (by first | exact HS1.out _ (Below.refl _ W3).drew | exact HS1.out _ ((Below.refl _ W3).drew.alloc (Nat.le_refl _) _)) (ivs_one _) (by unfold maxLen; omega) (by omega) (by first | exact Nat.le_refl _ | (simp; done)) ?_; intro v3 w3 hown3 hgrow3; have hB3 : Below W3.heap.size W3 w3 := (by first | exact (Below.refl _ W3).drew.grown hgrow3 (Nat.le_refl _) (fun k hk => by cases hk) | exact ((Below.refl _ W3).drew.alloc (Nat.le_refl _) _).grown hgrow3 (by simp) (fun k hk => by cases hk)); obtain ⟨z0, z1⟩ := HKC3.out w3 (HB0.out.trans (hB3.mono HB0.out.size)))
            | (refine step_append_or rfl (.tmp 61) (.tmp 71) 33 rfl W3.heap.size 3 i1 (.int .i64 0) 1 8 Tryz.underInts hi1 hy0 hy1 hy2 rfl (by decide) v3 (0 + k) ([] ++ ivs ((SJ j).take k)) (by simp [Act.eval, Act.put]) (hown3.alloc _) (some ⟨w3.heap.size, 0, none⟩) 2 2 [.int .i64 X, .int .i64 Y] (by simp [Act.eval, Act.put]) (fun e => by cases e) rfl (by intro ad ha; cases ha; exact cellsLs _) (by intro u hu; simp only [List.mem_cons, List.not_mem_nil, or_false] at hu; rcases hu with rfl | rfl <;> rfl) (by unfold maxLen; omega) (by omega) (by have := hB3.size; simp; omega) ?_; intro v4 w4 hown4 hgrow4; have hB4 : Below W3.heap.size W3 w4 := (hB3.alloc hB3.size _).grown hgrow4 (by have := hB3.size; simp; omega) (fun k hk => (own_block hown3 hk).1))
            | (refine step_append_or rfl (.tmp 61) (.tmp 71) 33 rfl W3.heap.size 3 i1 (.int .i64 0) 1 8 Tryz.underInts hi1 hy0 hy1 hy2 rfl (by decide) v3 (0 + k) ([] ++ ivs ((SJ j).take k)) (by simp [Act.eval, Act.put]) hown3 (some ⟨W3.heap.size, 0, none⟩) 2 2 [.int .i64 X, .int .i64 Y] (by simp [Act.eval, Act.put]) (fun e => by cases e) rfl (by intro ad ha; cases ha; exact cellsGs (w := W3) _ hgrow3 rfl rfl rfl) (by intro u hu; simp only [List.mem_cons, List.not_mem_nil, or_false] at hu; rcases hu with rfl | rfl <;> rfl) (by unfold maxLen; omega) (by omega) hB3.size ?_; intro v4 w4 hown4 hgrow4; have hB4 : Below W3.heap.size W3 w4 := hB3.grown hgrow4 hB3.size (fun k hk => (own_block hown3 hk).1))
            | (refine step_append_or rfl (.tmp 72) (.tmp 75) 33 rfl W3.heap.size 3 i1 (.int .i64 0) 1 8 Tryz.underInts hi1 hy0 hy1 hy2 rfl (by decide) v4 (0 + k + 2) ([] ++ ivs ((SJ j).take k) ++ [.int .i64 X, .int .i64 Y]) (by simp [Act.eval, Act.put]) hown4 SA (olen - k) (ocap - k) (ivs ((SJ j).drop k)) (by simp [Act.eval, Act.put]) HN3.out HL3.out (HS3.out _ hB4) (ivs_one _) (by unfold maxLen; omega) (by omega) hB4.size ?_; intro v5 wz hown5 hgrowz; have hB5 : Below W3.heap.size W3 wz := hB4.grown hgrowz hB4.size (fun k hk => (own_block hown4 hk).1)))
          all_goals
            have hn6 : 0 + k + 2 + (olen - k) = olen + 2 := by omega
            have hown6 : wz.ownsRow w.heap.size 3 1 v5 (SJ (j + 1)).length (ivs (SJ (j + 1))) := by
              have q := own_monoS hown5 HB0.out.size
              have e1 : (SJ (j + 1)).length = 0 + k + 2 + (olen - k) := by
                rw [HNX.out, List.length_append, List.length_append, List.length_take, List.length_drop, HJ.out.2]
                simp only [List.length_cons, List.length_nil]
                omega
              have e2 : ivs (SJ (j + 1)) = [] ++ ivs ((SJ j).take k) ++ [.int .i64 X, .int .i64 Y] ++ ivs ((SJ j).drop k) := by
                rw [HNX.out]
                unfold ivs
                rw [List.map_append, List.map_append, List.nil_append]
                rfl
              rw [e1, e2]
              exact q
            rw [hn6] at hown5
            obtain ⟨va, vc, rfl, _, _⟩ := own_shapeN hown5
            have HF : Hid (∃ j, olen + 2 = 2 * j ∧ olen + 2 = olen + 2 ∧ olen + 2 ≤ klen ∧ SoS w wz K0 (some ⟨b, off, none⟩) len cap r ns (.slice va (olen + 2) vc) (SJ j)) := ⟨j + 1, by have := HJ.out.1; omega, rfl, by omega, HSo3.out.g.later hB5, hown6⟩
            clear hown5 hown6 hgrowz hB5 hB4 hgrow4 hown4 hB3 hgrow3 hown3 HNX HS1 HS3 HL1 HL3 HN1 HN3 HOA HKC3 hSA x0 x1 HSo3 HB0 HSA HP HI HNN HS0 HCN2 HKP HL
            go_wp2_with fail
            go_roundw
            case rel => exact ⟨va, olen + 2, vc, olen + 2, rfl, by omega, by go_num, HF⟩
            case measure => (simp [intOf] <;> omega)
    · have hlt2 : ¬ (q : Int) + 1 < (klen : Int) := by omega
      have HV : Hid (∃ j, q = 2 * j ∧ olen = q ∧ q ≤ klen ∧ SoS w wr K0 ad len cap r ns (.slice oa olen ocap) RS) := by
        obtain ⟨j, h1, h2, h3, h4⟩ := HS.out
        rw [HSA.out j (by omega)] at h4
        exact ⟨j, h1, h2, h3, h4⟩
      have HV2 : Hid (olen = RS.length ∧ wr.ownsRow w.heap.size 3 1 (.slice oa olen ocap) RS.length (ivs RS) ∧ Below w.heap.size w wr) := by
        obtain ⟨j, h1, h2, h3, h4⟩ := HV.out
        have h5 := h4.o
        have h6 : olen = RS.length := by
          rcases h5.2 with ⟨e, e2⟩ | ⟨g, c, cur, e, _⟩
          · cases e; exact e2.symm
          · injection e
        exact ⟨h6, h5, h4.g.bl⟩
      clear HS HV HSL HSM HSA HEC HSN HP HI HNN HS0
      go_wp2_with fail
      go_ret
      exact ⟨oa, olen, ocap, rfl, HV2⟩
end Go.Proofs.YtaflbooofchimaaGreatDoor.Alk
end
