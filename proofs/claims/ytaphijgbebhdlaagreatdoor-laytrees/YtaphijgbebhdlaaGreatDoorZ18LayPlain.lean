/- Several texts as one: LayPlain, LayRgt, LayAnc, LayNam, LayDep. -/
import Derived.Test.YtaphijgbebhdlaaGreatDoorZ16GraphAnc
import Derived.Test.YtaphijgbebhdlaaGreatDoorZ15GraphTop2I
import Derived.Test.YtaphijgbebhdlaaGreatDoorZ08FlowAllow
import Derived.Test.YtaphijgbebhdlaaGreatDoorZ10GraphMem
section
/- A graph's tree, as plain functions, and what it is composed to. -/
namespace Go.Proofs.YtaphijgbebhdlaaGreatDoor.Grp
open Utf Rws Pln Flw
set_option linter.unusedSimpArgs false
set_option linter.unusedVariables false

/-- the trees of places, one behind the other; what was gone to; all goings -/
def lyK (f : Nat → List Nat → Tr × List Nat × List Nat) : List Nat → List Nat → List Tr × List Nat × List Nat
  | [], out => ([], out, [])
  | b :: l, out => ((f b out).1 :: (lyK f l (f b out).2.1).1, (lyK f l (f b out).2.1).2.1, (f b out).2.2 ++ (lyK f l (f b out).2.1).2.2)
/-- a place's tree: nm tells the Anchors -/
def lyT (ns : List Nd) (nm : Nat → Ln) : Nat → Nat → List Nat → Tr × List Nat × List Nat
  | 0, _, out => (tr0, out, [])
  | d + 1, a, out => if a ∈ out then (⟨7, [], nm a, []⟩, out, [a]) else
      (⟨(ns.getD a nd0).kind, (ns.getD a nd0).text, nm a, (lyK (lyT ns nm d) (kd ns a) (out ++ [a])).1⟩, (lyK (lyT ns nm d) (kd ns a) (out ++ [a])).2.1, a :: (lyK (lyT ns nm d) (kd ns a) (out ++ [a])).2.2)
theorem ly_old {ns : List Nd} {nm : Nat → Ln} {d a : Nat} {out : List Nat} (h : a ∈ out) : lyT ns nm (d + 1) a out = (⟨7, [], nm a, []⟩, out, [a]) := by rw [lyT, if_pos h]
theorem ly_new {ns : List Nd} {nm : Nat → Ln} {d a : Nat} {out : List Nat} (h : a ∉ out) : lyT ns nm (d + 1) a out = (⟨(ns.getD a nd0).kind, (ns.getD a nd0).text, nm a, (lyK (lyT ns nm d) (kd ns a) (out ++ [a])).1⟩, (lyK (lyT ns nm d) (kd ns a) (out ++ [a])).2.1, a :: (lyK (lyT ns nm d) (kd ns a) (out ++ [a])).2.2) := by rw [lyT, if_neg h]
structure OkO (N : Nat) (out : List Nat) : Prop where
  nd : out.Nodup
  lt : ∀ b ∈ out, b < N
theorem OkO.le {N : Nat} {out : List Nat} (h : OkO N out) : out.length ≤ N := len_le h.nd h.lt
theorem OkO.snoc {N a : Nat} {out : List Nat} (h : OkO N out) (ha : a < N) (hn : a ∉ out) : OkO N (out ++ [a]) := by
  refine ⟨?_, fun b hb => ?_⟩
  · rw [List.nodup_append]
    refine ⟨h.nd, by simp, fun x hx y hy e => ?_⟩
    simp at hy
    subst hy
    subst e
    exact hn hx
  · rcases List.mem_append.1 hb with hb | hb
    · exact h.lt b hb
    · simp at hb; omega
/-- what goings leave -/
structure LyR (ns : List Nd) (N : Nat) (l out out' lg nw : List Nat) : Prop where
  e : out' = out ++ nw
  ok : OkO N out'
  kid : ∀ b ∈ l, b ∈ out'
  mem : ∀ b, b ∈ out' ↔ b ∈ out ∨ b ∈ lg
  cl : ∀ x ∈ nw, ∀ b ∈ kd ns x, b ∈ out'
  cn : ∀ b, lg.count b = l.count b + (nw.map (fun x => (kd ns x).count b)).sum
  ln : lg.length = l.length + (nw.map (fun x => (kd ns x).length)).sum
theorem ly_k {ns : List Nd} {N d : Nat} {f : Nat → List Nat → Tr × List Nat × List Nat} (hf : ∀ a out, OkO N out → a < N → N < d + out.length → ∃ nw, LyR ns N [a] out (f a out).2.1 (f a out).2.2 nw) :
    ∀ (l out : List Nat), OkO N out → (∀ b ∈ l, b < N) → N < d + out.length → ∃ nw, LyR ns N l out (lyK f l out).2.1 (lyK f l out).2.2 nw
  | [], out, ho, _, _ => ⟨[], by simp [lyK], ho, fun b hb => (by cases hb), fun b => by simp [lyK], fun x hx => (by cases hx), fun b => by simp [lyK], by simp [lyK]⟩
  | b :: l, out, ho, hl, hd => by
    obtain ⟨n1, R1⟩ := hf b out ho (hl b (by simp)) hd
    have h1 := R1.e
    obtain ⟨n2, R2⟩ := ly_k hf l (f b out).2.1 R1.ok (fun c hc => hl c (by simp [hc])) (by rw [h1, List.length_append]; omega)
    have h2 := R2.e
    have hsub : ∀ c, c ∈ (f b out).2.1 → c ∈ (lyK f l (f b out).2.1).2.1 := fun c hc => by rw [h2]; exact List.mem_append_left _ hc
    refine ⟨n1 ++ n2, ?_, R2.ok, fun c hc => ?_, fun c => ?_, fun x hx c hc => ?_, fun c => ?_, ?_⟩
    · show (lyK f l (f b out).2.1).2.1 = _
      rw [h2, h1, List.append_assoc]
    · rcases List.mem_cons.1 hc with rfl | hc
      · exact hsub _ (R1.kid _ (by simp))
      · exact R2.kid c hc
    · show c ∈ (lyK f l (f b out).2.1).2.1 ↔ c ∈ out ∨ c ∈ (f b out).2.2 ++ (lyK f l (f b out).2.1).2.2
      rw [R2.mem c, R1.mem c, List.mem_append]
      exact or_assoc
    · rcases List.mem_append.1 hx with hx | hx
      · exact hsub _ (R1.cl x hx c hc)
      · exact R2.cl x hx c hc
    · show ((f b out).2.2 ++ (lyK f l (f b out).2.1).2.2).count c = _
      rw [List.count_append, R1.cn c, R2.cn c, List.map_append, List.sum_append, List.count_cons, List.count_cons, List.count_nil]
      omega
    · show ((f b out).2.2 ++ (lyK f l (f b out).2.1).2.2).length = _
      rw [List.length_append, R1.ln, R2.ln, List.map_append, List.sum_append, List.length_cons, List.length_cons, List.length_nil]
      omega
theorem ly_t {ns : List Nd} {nm : Nat → Ln} {N : Nat} (hk : ∀ a, a < N → ∀ b ∈ kd ns a, b < N) : ∀ (d a : Nat) (out : List Nat), OkO N out → a < N → N < d + out.length → ∃ nw, LyR ns N [a] out (lyT ns nm d a out).2.1 (lyT ns nm d a out).2.2 nw
  | 0, a, out, ho, _, hd => absurd ho.le (by omega)
  | d + 1, a, out, ho, ha, hd => by
    by_cases h : a ∈ out
    · rw [ly_old h]
      have hm : ∀ b, b ∈ out ↔ b ∈ out ∨ b ∈ [a] := fun b => by
        constructor
        · exact .inl
        · rintro (h' | h')
          · exact h'
          · simp at h'; subst h'; exact h
      exact ⟨[], by simp, ho, fun b hb => (by simp at hb; subst hb; exact h), hm, fun x hx => (by cases hx), fun b => by simp, by simp⟩
    · rw [ly_new h]
      obtain ⟨n1, R⟩ := ly_k (ly_t hk d) (kd ns a) (out ++ [a]) (ho.snoc ha h) (hk a ha) (by rw [List.length_append, List.length_singleton]; omega)
      have h1 := R.e
      have ha2 : a ∈ (lyK (lyT ns nm d) (kd ns a) (out ++ [a])).2.1 := by rw [h1]; simp
      refine ⟨a :: n1, by rw [h1]; simp, R.ok, fun b hb => (by simp at hb; subst hb; exact ha2), fun b => ?_, fun x hx b hb => ?_, fun b => ?_, ?_⟩
      · show b ∈ (lyK (lyT ns nm d) (kd ns a) (out ++ [a])).2.1 ↔ b ∈ out ∨ b ∈ a :: (lyK (lyT ns nm d) (kd ns a) (out ++ [a])).2.2
        rw [R.mem b, List.mem_append, List.mem_singleton, List.mem_cons]
        exact or_assoc
      · rcases List.mem_cons.1 hx with rfl | hx
        · exact R.kid b hb
        · exact R.cl x hx b hb
      · show (a :: (lyK (lyT ns nm d) (kd ns a) (out ++ [a])).2.2).count b = _
        rw [List.count_cons, R.cn b, List.count_cons, List.count_nil, List.map_cons, List.sum_cons]
        omega
      · show (a :: (lyK (lyT ns nm d) (kd ns a) (out ++ [a])).2.2).length = _
        rw [List.length_cons, R.ln, List.length_cons, List.length_nil, List.map_cons, List.sum_cons]
        omega
/-- what is gone to is the walk's order -/
theorem ly_wks {ns : List Nd} {nm : Nat → Ln} {N d n e : Nat} (hk : ∀ a, a < N → ∀ b ∈ kd ns a, b < N) (hf : ∀ a out m, OkO N out → a < N → N < d + out.length → (lyT ns nm d a out).2.1 = (wk (kd ns) n [(a, e)] out m).1) :
    ∀ (l : List Nat) (s : List Nat × Nat), OkO N s.1 → (∀ b ∈ l, b < N) → N < d + s.1.length → (lyK (lyT ns nm d) l s.1).2.1 = (wks (kd ns) n l e s).1
  | [], s, _, _, _ => rfl
  | b :: l, s, ho, hl, hd => by
    have h1 := hf b s.1 s.2 ho (hl b (by simp)) hd
    obtain ⟨nw, R⟩ := ly_t (nm := nm) hk d b s.1 ho (hl b (by simp)) hd
    rw [wks]
    have h2 := ly_wks hk hf l (wk (kd ns) n [(b, e)] s.1 s.2) (by rw [← h1]; exact R.ok) (fun c hc => hl c (by simp [hc])) (by rw [← h1, R.e, List.length_append]; omega)
    rw [← h2, ← h1]
    rfl
theorem ly_wk {ns : List Nd} {nm : Nat → Ln} {N : Nat} (hk : ∀ a, a < N → ∀ b ∈ kd ns a, b < N) : ∀ (d a : Nat) (out : List Nat) (m e : Nat), OkO N out → a < N → N < d + out.length → (lyT ns nm d a out).2.1 = (wk (kd ns) (ful (kd ns) N) [(a, e)] out m).1
  | 0, a, out, m, e, ho, _, hd => absurd ho.le (by omega)
  | d + 1, a, out, m, e, ho, ha, hd => by
    by_cases h : a ∈ out
    · rw [ly_old h, wk_old (by unfold ful; omega) h]
    · rw [ly_new h, wk_new hk ha h (mea_ful _ _ _ _)]
      exact ly_wks (N := N) hk (fun a out m ho ha hd => ly_wk hk d a out m (e + 1) ho ha hd) (kd ns a) (out ++ [a], max m e) (ho.snoc ha h) (hk a ha) (by rw [List.length_append, List.length_singleton]; omega)
theorem ly_od {ns : List Nd} {nm : Nat → Ln} (hk : ∀ n ∈ ns, ∀ a ∈ n.kids, isP ns.length a = true) {d r : Nat} (hr : r < ns.length) (hd : ns.length < d) : (lyT ns nm d r []).2.1 = odG ns r :=
  ly_wk (kd_lt hk rfl) d r [] 0 1 ⟨List.nodup_nil, fun b hb => (by cases hb)⟩ hr (by simpa using hd)
/-- the composer's state behind what was gone to -/
structure CsI (nm : Nat → Ln) (out : List Nat) (s : Cs) : Prop where
  len : s.ns.length = out.length
  an : ∀ b ∈ out, nm b ≠ [] → look s.an (nm b) = some (out.idxOf b)
/-- a node as the Canon has it -/
def cnd (ns : List Nd) (out : List Nat) (x : Nat) : Nd := ⟨(ns.getD x nd0).kind, (ns.getD x nd0).text, (kd ns x).map fun b => (out.idxOf b : Int)⟩
theorem idx_app {l m : List Nat} {b : Nat} (h : b ∈ l) : (l ++ m).idxOf b = l.idxOf b := by rw [List.idxOf_append, if_pos h]
theorem cnd_app {ns : List Nd} {out m : List Nat} {x : Nat} (h : ∀ b ∈ kd ns x, b ∈ out) : cnd ns (out ++ m) x = cnd ns out x := by
  unfold cnd
  congr 1
  exact List.map_congr_left fun b hb => by rw [idx_app (h b hb)]
/-- what composing leaves -/
structure CmR (ns : List Nd) (nm : Nat → Ln) (out out' : List Nat) (s s' : Cs) : Prop where
  c : CsI nm out' s'
  kp : ∀ i, i < s.ns.length → s'.ns[i]? = s.ns[i]?
  nw : ∀ i, out.length ≤ i → i < out'.length → s'.ns[i]? = some (cnd ns out' (out'.getD i 0))
theorem pls_ly {ns : List Nd} {nm : Nat → Ln} {N d D : Nat} {T : Nat → Nat} (hk : ∀ a, a < N → ∀ b ∈ kd ns a, b < N)
    (hf : ∀ (a : Nat) (out L : List Nat) (s : Cs), OkO N out → a < N → N < d + out.length → (∀ b, b ∈ out ↔ b ∈ L) → (∀ b, L.count b + (lyT ns nm d a out).2.2.count b ≤ T b) → CsI nm out s →
      ∃ s', plc D (lyT ns nm d a out).1 s = ((lyT ns nm d a out).2.1.idxOf a, 0, s') ∧ CmR ns nm out (lyT ns nm d a out).2.1 s s' ∧ (a ∉ out → ((lyT ns nm d a out).1.kind, (lyT ns nm d a out).1.text) = kp ns (a : Int))) (k : Int) :
    ∀ (l : List Int) (i : Nat) (ks : List (Int × Ln)) (ps : List Nat) (out L : List Nat) (s : Cs), OkO N out → (∀ b ∈ l, isP N b = true) → N < d + out.length → (∀ b, b ∈ out ↔ b ∈ L) →
      (∀ b, L.count b + (lyK (lyT ns nm d) (l.map Int.toNat) out).2.2.count b ≤ T b) → CsI nm out s → (ks ++ (kys k i l).map (kp ns)).Nodup → (∀ c ∈ kys k i l, T c.toNat ≤ 1) →
      ∃ s', pls (plc D) k i (lyK (lyT ns nm d) (l.map Int.toNat) out).1 ks ps s = (ps ++ l.map (fun b => (lyK (lyT ns nm d) (l.map Int.toNat) out).2.1.idxOf b.toNat), 0, s') ∧ CmR ns nm out (lyK (lyT ns nm d) (l.map Int.toNat) out).2.1 s s'
  | [], i, ks, ps, out, L, s, ho, _, _, _, _, hc, _, _ => ⟨s, by simp [lyK, pls], hc, fun _ _ => rfl, fun i h1 h2 => (by simp [lyK] at h2; omega)⟩
  | c :: l, i, ks, ps, out, L, s, ho, hl, hd, hL, hT, hc, hn, hky => by
    obtain ⟨a, rfl, ha⟩ := isP_nat (hl c (by simp))
    rw [List.map_cons, Int.toNat_natCast] at hT ⊢
    have hT2 : ∀ b, L.count b + ((lyT ns nm d a out).2.2.count b + (lyK (lyT ns nm d) (l.map Int.toNat) (lyT ns nm d a out).2.1).2.2.count b) ≤ T b := fun b => by
      have := hT b
      rw [show (lyK (lyT ns nm d) (a :: l.map Int.toNat) out).2.2 = (lyT ns nm d a out).2.2 ++ (lyK (lyT ns nm d) (l.map Int.toNat) (lyT ns nm d a out).2.1).2.2 from rfl, List.count_append] at this
      exact this
    obtain ⟨s1, e1, R1, kp1⟩ := hf a out L s ho ha hd hL (fun b => by have := hT2 b; omega) hc
    obtain ⟨n1, Q1⟩ := ly_t (nm := nm) hk d a out ho ha hd
    obtain ⟨n2, Q2⟩ := ly_k (ly_t (nm := nm) hk d) (l.map Int.toNat) (lyT ns nm d a out).2.1 Q1.ok (fun b hb => by
      obtain ⟨z, hz, rfl⟩ := List.mem_map.1 hb
      obtain ⟨y, rfl, hy⟩ := isP_nat (hl z (by simp [hz]))
      rw [Int.toNat_natCast]; exact hy) (by rw [Q1.e, List.length_append]; omega)
    have hmem : ∀ b, b ∈ (lyT ns nm d a out).2.1 ↔ b ∈ L ++ (lyT ns nm d a out).2.2 := fun b => by rw [Q1.mem b, List.mem_append, hL b]
    have hkey : kyP k i = true → a ∉ out ∧ kp ns (a : Int) ∉ ks := fun q => by
      have hin : (a : Int) ∈ kys k i ((a : Int) :: l) := by rw [kys, if_pos q]; simp
      have h1 := hky _ hin
      rw [Int.toNat_natCast] at h1
      refine ⟨fun h => ?_, fun h => ?_⟩
      · have h2 := hT2 a
        have h3 := Q1.cn a
        have h4 : 0 < L.count a := List.count_pos_iff.2 ((hL a).1 h)
        rw [List.count_cons_self, List.count_nil] at h3
        omega
      · rw [kys, if_pos q, List.map_cons, List.nodup_append] at hn
        exact hn.2.2 _ h _ (by simp) rfl
    obtain ⟨s2, e2, R2⟩ := pls_ly hk hf k l (i + 1) (if kyP k i = true then ks ++ [((lyT ns nm d a out).1.kind, (lyT ns nm d a out).1.text)] else ks) (ps ++ [(lyT ns nm d a out).2.1.idxOf a]) (lyT ns nm d a out).2.1 (L ++ (lyT ns nm d a out).2.2) s1 Q1.ok (fun b hb => hl b (by simp [hb])) (by rw [Q1.e, List.length_append]; omega) hmem (fun b => by rw [List.count_append]; have := hT2 b; omega) R1.c (by
        rw [kys] at hn
        by_cases q : kyP k i = true
        · rw [if_pos q] at hn ⊢
          rw [kp1 (hkey q).1, List.append_assoc]
          exact hn
        · rw [if_neg q] at hn ⊢
          exact hn) (fun z hz => hky z (by rw [kys]; split <;> simp [hz]))
    refine ⟨s2, ?_, R2.c, fun j hj => ?_, fun j h1 h2 => ?_⟩
    · show pls (plc D) k i ((lyT ns nm d a out).1 :: (lyK (lyT ns nm d) (l.map Int.toNat) (lyT ns nm d a out).2.1).1) ks ps s = _
      rw [pls, if_neg (fun h => (hkey h.1).2 (by rw [← kp1 (hkey h.1).1]; exact h.2)), e1, if_pos rfl]
      simp only
      rw [e2, List.append_assoc]
      have ea : (lyK (lyT ns nm d) (l.map Int.toNat) (lyT ns nm d a out).2.1).2.1.idxOf a = (lyT ns nm d a out).2.1.idxOf a := by
        rw [Q2.e]; exact idx_app (Q1.kid a (by simp))
      show (_, 0, s2) = (ps ++ List.map (fun b : Int => (lyK (lyT ns nm d) (l.map Int.toNat) (lyT ns nm d a out).2.1).2.1.idxOf b.toNat) ((a : Int) :: l), 0, s2)
      rw [List.map_cons, Int.toNat_natCast, ea]
      rfl
    · rw [R2.kp j (by rw [R1.c.len, Q1.e, List.length_append, ← hc.len]; omega)]
      exact R1.kp j hj
    · show s2.ns[j]? = some (cnd ns (lyK (lyT ns nm d) (l.map Int.toNat) (lyT ns nm d a out).2.1).2.1 ((lyK (lyT ns nm d) (l.map Int.toNat) (lyT ns nm d a out).2.1).2.1.getD j 0))
      by_cases q : j < (lyT ns nm d a out).2.1.length
      · have hg : (lyK (lyT ns nm d) (l.map Int.toNat) (lyT ns nm d a out).2.1).2.1.getD j 0 = (lyT ns nm d a out).2.1.getD j 0 := by
          rw [Q2.e, List.getD_eq_getElem?_getD, List.getElem?_append_left q, List.getD_eq_getElem?_getD]
        rw [R2.kp j (by rw [R1.c.len]; exact q), R1.nw j h1 q, hg]
        congr 1
        rw [Q2.e]
        refine (cnd_app fun b hb => ?_).symm
        have hx : (lyT ns nm d a out).2.1.getD j 0 ∈ n1 := by
          rw [Q1.e, List.getD_eq_getElem?_getD, List.getElem?_append_right h1]
          have : j - out.length < n1.length := by rw [Q1.e, List.length_append] at q; omega
          rw [List.getElem?_eq_getElem this]
          exact List.getElem_mem _
        exact Q1.cl _ hx b hb
      · exact R2.nw j (by omega) h2
theorem plc_ly {ns : List Nd} {nm : Nat → Ln} {N : Nat} {T : Nat → Nat} (hk : ∀ a, a < N → ∀ b ∈ kd ns a, b < N) (hP : ∀ a, a < N → ∀ b ∈ (ns.getD a nd0).kids, isP N b = true)
    (hinj : ∀ a b, nm a ≠ [] → nm a = nm b → a = b) (hsh : ∀ b, 2 ≤ T b → nm b ≠ []) (hdif : ∀ a, a < N → ((kys (ns.getD a nd0).kind 0 (ns.getD a nd0).kids).map (kp ns)).Nodup) (hky : ∀ a, a < N → ∀ c ∈ kys (ns.getD a nd0).kind 0 (ns.getD a nd0).kids, T c.toNat ≤ 1) (h7 : ∀ a, a < N → (ns.getD a nd0).kind ≠ 7) :
    ∀ (d D : Nat), d ≤ D → ∀ (a : Nat) (out L : List Nat) (s : Cs), OkO N out → a < N → N < d + out.length → (∀ b, b ∈ out ↔ b ∈ L) → (∀ b, L.count b + (lyT ns nm d a out).2.2.count b ≤ T b) → CsI nm out s →
      ∃ s', plc D (lyT ns nm d a out).1 s = ((lyT ns nm d a out).2.1.idxOf a, 0, s') ∧ CmR ns nm out (lyT ns nm d a out).2.1 s s' ∧ (a ∉ out → ((lyT ns nm d a out).1.kind, (lyT ns nm d a out).1.text) = kp ns (a : Int))
  | 0, D, _, a, out, L, s, ho, _, hd, _, _, _ => absurd ho.le (by omega)
  | d + 1, 0, hD, _, _, _, _, _, _, _, _, _, _ => absurd hD (by omega)
  | d + 1, D + 1, hD, a, out, L, s, ho, ha, hd, hL, hT, hc => by
    by_cases h : a ∈ out
    · rw [ly_old h] at hT ⊢
      have h1 := hT a
      have h2 : 0 < L.count a := List.count_pos_iff.2 ((hL a).1 h)
      rw [show [a].count a = 1 by simp] at h1
      have h3 := hc.an a h (hsh a (by omega))
      refine ⟨s, ?_, ⟨hc, fun _ _ => rfl, fun i h1 h2 => (by simp only at h2; omega)⟩, fun h' => absurd h h'⟩
      rw [plc, if_pos rfl]
      simp only
      rw [h3]
    · rw [ly_new h] at hT ⊢
      simp only at hT ⊢
      have hs : OkO N (out ++ [a]) := ho.snoc ha h
      have hc1 : CsI nm (out ++ [a]) (put1 ⟨(ns.getD a nd0).kind, (ns.getD a nd0).text, nm a, (lyK (lyT ns nm d) (kd ns a) (out ++ [a])).1⟩ s) := by
        refine ⟨by simp [put1, hc.len], fun b hb hb2 => ?_⟩
        unfold put1
        simp only
        by_cases q : nm a = []
        · rw [if_pos q]
          have hbo : b ∈ out := by
            rcases List.mem_append.1 hb with hb | hb
            · exact hb
            · simp at hb; subst hb; exact absurd q hb2
          rw [hc.an b hbo hb2, idx_app hbo]
        · rw [if_neg q, look]
          simp only
          by_cases e : nm a = nm b
          · have := hinj a b q e
            subst this
            rw [if_pos rfl, hc.len, List.idxOf_append, if_neg h]
            simp
          · rw [if_neg e]
            have hbo : b ∈ out := by
              rcases List.mem_append.1 hb with hb | hb
              · exact hb
              · simp at hb; subst hb; exact absurd rfl e
            rw [hc.an b hbo hb2, idx_app hbo]
      have hkl : kd ns a = (ns.getD a nd0).kids.map Int.toNat := rfl
      obtain ⟨s1, e1, R1⟩ := pls_ly (D := D) (T := T) hk (fun a out L s => plc_ly hk hP hinj hsh hdif hky h7 d D (by omega) a out L s) (ns.getD a nd0).kind (ns.getD a nd0).kids 0 [] [] (out ++ [a]) (L ++ [a]) _ hs (hP a ha) (by rw [List.length_append, List.length_singleton]; omega) (fun b => by rw [List.mem_append, List.mem_append, hL b]) (fun b => by
        have := hT b
        rw [List.count_cons] at this
        rw [List.count_append, List.count_cons, List.count_nil]
        rw [← hkl]
        omega) hc1 (by simpa using hdif a ha) (hky a ha)
      rw [← hkl] at e1 R1
      obtain ⟨n1, Q⟩ := ly_k (ly_t (nm := nm) hk d) (kd ns a) (out ++ [a]) hs (hk a ha) (by rw [List.length_append, List.length_singleton]; omega)
      have hia : (lyK (lyT ns nm d) (kd ns a) (out ++ [a])).2.1.idxOf a = out.length := by
        rw [Q.e, idx_app (by simp), List.idxOf_append, if_neg h]
        simp
      have hln : out.length < s1.ns.length := by rw [R1.c.len, Q.e, List.length_append, List.length_append, List.length_singleton]; omega
      refine ⟨⟨s1.ns.set out.length (cnd ns (lyK (lyT ns nm d) (kd ns a) (out ++ [a])).2.1 a), s1.an⟩, ?_, ⟨⟨by simp only [List.length_set]; exact R1.c.len, R1.c.an⟩, fun i hi => ?_, fun i h1 h2 => ?_⟩, fun _ => ?_⟩
      · rw [plc, if_neg (h7 a ha)]
        simp only
        rw [e1, hia, hc.len]
        unfold setK cnd
        simp only [List.nil_append, List.map_map]
        rw [hkl, List.map_map]
        rfl
      · simp only
        rw [List.getElem?_set_ne (by rw [← hc.len]; omega), R1.kp i (by simp [put1]; omega)]
        simp only [put1]
        exact List.getElem?_append_left hi
      · simp only
        by_cases q : i = out.length
        · subst q
          rw [List.getElem?_set_self hln]
          congr 2
          rw [Q.e, List.getD_eq_getElem?_getD, List.append_assoc, List.getElem?_append_right (Nat.le_refl _)]
          simp
        · rw [List.getElem?_set_ne (by omega)]
          exact R1.nw i (by rw [List.length_append, List.length_singleton]; omega) h2
      · unfold kp
        rw [Int.toNat_natCast]
/-- a graph's tree is composed to its Canon -/
theorem ly_cm {ns : List Nd} {nm : Nat → Ln} {T : Nat → Nat} (hP : ∀ n ∈ ns, ∀ a ∈ n.kids, isP ns.length a = true) {r d D : Nat} (hr : r < ns.length) (hd : ns.length < d) (hD : d ≤ D)
    (hinj : ∀ a b, nm a ≠ [] → nm a = nm b → a = b) (hsh : ∀ b, 2 ≤ T b → nm b ≠ []) (hdif : ∀ n ∈ ns, ((kys n.kind 0 n.kids).map (kp ns)).Nodup) (hky : ∀ n ∈ ns, ∀ c ∈ kys n.kind 0 n.kids, T c.toNat ≤ 1) (h7 : ∀ n ∈ ns, n.kind ≠ 7)
    (hT : ∀ b, (if r = b then 1 else 0) + ((odG ns r).map (fun x => (kd ns x).count b)).sum ≤ T b) :
    ∃ s', plc D (lyT ns nm d r []).1 ⟨[], []⟩ = (0, 0, s') ∧ s'.ns = cnN ns (odG ns r) := by
  have hk := kd_lt hP rfl
  have hm : ∀ a, a < ns.length → ns.getD a nd0 ∈ ns := fun a ha => mem_getD ha
  obtain ⟨nw, Q⟩ := ly_t (nm := nm) hk d r [] ⟨List.nodup_nil, fun b hb => (by cases hb)⟩ hr (by simpa using hd)
  have ho := ly_od (nm := nm) hP hr hd
  have hq := Q.e
  rw [ho, List.nil_append] at hq
  obtain ⟨s', e, R, _⟩ := plc_ly (T := T) hk (fun a ha => hP _ (hm a ha)) hinj hsh (fun a ha => hdif _ (hm a ha)) (fun a ha => hky _ (hm a ha)) (fun a ha => h7 _ (hm a ha)) d D hD r [] [] ⟨[], []⟩ ⟨List.nodup_nil, fun b hb => (by cases hb)⟩ hr (by simpa using hd) (fun b => Iff.rfl) (fun b => by
    have h1 := hT b
    have h2 := Q.cn b
    rw [← hq, List.count_cons, List.count_nil] at h2
    rw [List.count_nil, h2]
    by_cases z : r = b
    · rw [if_pos z] at h1
      rw [if_pos (by simp [z])]
      omega
    · rw [if_neg z] at h1
      rw [if_neg (by simp [z])]
      omega) ⟨rfl, fun b hb => (by cases hb)⟩
  rw [ho] at e R
  refine ⟨s', by rw [e, (od_pos ns r).2.1], ?_⟩
  refine List.ext_getElem? fun i => ?_
  by_cases hi : i < (odG ns r).length
  · have hg : (odG ns r).getD i 0 = (odG ns r)[i] := by rw [List.getD_eq_getElem?_getD, List.getElem?_eq_getElem hi]; rfl
    rw [R.nw i (Nat.zero_le _) hi, hg]
    unfold cnN cnd
    rw [List.getElem?_map, List.getElem?_eq_getElem hi]
    simp only [Option.map_some, kd, List.map_map]
    rfl
  · rw [List.getElem?_eq_none (by rw [R.c.len]; omega), List.getElem?_eq_none (by rw [cnN_len]; omega)]
end Go.Proofs.YtaphijgbebhdlaaGreatDoor.Grp
end

section
/- A graph's tree may be. -/
namespace Go.Proofs.YtaphijgbebhdlaaGreatDoor.Grp
open Utf Rws Pln Flw
set_option linter.unusedSimpArgs false
set_option linter.unusedVariables false

/-- lists lie no more than so many within one another -/
def nst : Nat → Tr → Prop
  | 0, t => isLst t = false
  | m + 1, t => isLst t = true → ∀ k ∈ t.kids, nst m k
theorem ral_anc {k : Int} {x a : Ln} {n : Nat} (h : ral k x [] n = true) (ha : a ≠ [] → isName a = true) : ral k x a n = true := by
  unfold ral at h ⊢
  rw [Bool.and_eq_true, Bool.and_eq_true] at h ⊢
  refine ⟨⟨h.1.1, ?_⟩, h.2⟩
  unfold ran at h ⊢
  by_cases q : a = []
  · rw [if_pos q]
    have := h.1.2
    rw [if_pos rfl] at this
    exact this
  · rw [if_neg q]
    exact ha q
theorem lyK_len {f : Nat → List Nat → Tr × List Nat × List Nat} : ∀ (l out : List Nat), (lyK f l out).1.length = l.length
  | [], out => rfl
  | b :: l, out => by
    show ((f b out).1 :: (lyK f l (f b out).2.1).1).length = _
    rw [List.length_cons, lyK_len l, List.length_cons]
theorem alk_ly {ns : List Nd} {nm : Nat → Ln} {N d D deep m : Nat} {T : Nat → Nat} (hk : ∀ a, a < N → ∀ b ∈ kd ns a, b < N) (hns : ∀ b, T b ≤ 1 → nm b = [])
    (hf : ∀ (a : Nat) (out L : List Nat) (n : Nat), OkO N out → a < N → N < d + out.length → (∀ b, b ∈ out ↔ b ∈ L) → (∀ b, L.count b + (lyT ns nm d a out).2.2.count b ≤ T b) → nst m (lyT ns nm d a out).1 → n + (lyT ns nm d a out).2.2.length ≤ 4096 →
      alw D deep (lyT ns nm d a out).1 n = some (n + (lyT ns nm d a out).2.2.length) ∧ (a ∉ out → (lyT ns nm d a out).1.kind = (ns.getD a nd0).kind ∧ (lyT ns nm d a out).1.anc = nm a)) (k : Int) :
    ∀ (l : List Int) (i : Nat) (out L : List Nat) (n : Nat), OkO N out → (∀ b ∈ l, isP N b = true) → N < d + out.length → (∀ b, b ∈ out ↔ b ∈ L) → (∀ b, L.count b + (lyK (lyT ns nm d) (l.map Int.toNat) out).2.2.count b ≤ T b) →
      (∀ t ∈ (lyK (lyT ns nm d) (l.map Int.toNat) out).1, nst m t) → n + (lyK (lyT ns nm d) (l.map Int.toNat) out).2.2.length ≤ 4096 → (∀ c ∈ kys k i l, T c.toNat ≤ 1 ∧ sca (ns.getD c.toNat nd0).kind = true) →
      alk (fun t z => alw D deep t z) (decide (k = 6)) i (lyK (lyT ns nm d) (l.map Int.toNat) out).1 n = some (n + (lyK (lyT ns nm d) (l.map Int.toNat) out).2.2.length)
  | [], i, out, L, n, ho, _, _, _, _, _, _, _ => by simp [lyK, alk]
  | c :: l, i, out, L, n, ho, hl, hd, hL, hT, hnt, hn, hky => by
    obtain ⟨a, rfl, ha⟩ := isP_nat (hl c (by simp))
    rw [List.map_cons, Int.toNat_natCast] at hT hnt hn ⊢
    have eT : (lyK (lyT ns nm d) (a :: l.map Int.toNat) out).1 = (lyT ns nm d a out).1 :: (lyK (lyT ns nm d) (l.map Int.toNat) (lyT ns nm d a out).2.1).1 := rfl
    have eL : (lyK (lyT ns nm d) (a :: l.map Int.toNat) out).2.2 = (lyT ns nm d a out).2.2 ++ (lyK (lyT ns nm d) (l.map Int.toNat) (lyT ns nm d a out).2.1).2.2 := rfl
    rw [eT] at hnt ⊢
    rw [eL, List.length_append] at hn ⊢
    have hT2 : ∀ b, L.count b + ((lyT ns nm d a out).2.2.count b + (lyK (lyT ns nm d) (l.map Int.toNat) (lyT ns nm d a out).2.1).2.2.count b) ≤ T b := fun b => by
      have := hT b
      rw [eL, List.count_append] at this
      exact this
    obtain ⟨e1, kp1⟩ := hf a out L n ho ha hd hL (fun b => by have := hT2 b; omega) (hnt _ (by simp)) (by omega)
    obtain ⟨n1, Q1⟩ := ly_t (nm := nm) hk d a out ho ha hd
    have hmem : ∀ b, b ∈ (lyT ns nm d a out).2.1 ↔ b ∈ L ++ (lyT ns nm d a out).2.2 := fun b => by rw [Q1.mem b, List.mem_append, hL b]
    have hkey : kyP k i = true → kyl (lyT ns nm d a out).1.kind (lyT ns nm d a out).1.anc = true := fun q => by
      have hin : (a : Int) ∈ kys k i ((a : Int) :: l) := by rw [kys, if_pos q]; simp
      obtain ⟨h1, h5⟩ := hky _ hin
      rw [Int.toNat_natCast] at h1 h5
      have hno : a ∉ out := fun h => by
        have h2 := hT2 a
        have h3 := Q1.cn a
        have h4 : 0 < L.count a := List.count_pos_iff.2 ((hL a).1 h)
        rw [List.count_cons_self, List.count_nil] at h3
        omega
      obtain ⟨z1, z2⟩ := kp1 hno
      unfold kyl
      rw [z1, z2, hns a h1]
      unfold sca at h5
      rw [h5]
      rfl
    have e2 := alk_ly hk hns hf k l (i + 1) (lyT ns nm d a out).2.1 (L ++ (lyT ns nm d a out).2.2) (n + (lyT ns nm d a out).2.2.length) Q1.ok (fun b hb => hl b (by simp [hb])) (by rw [Q1.e, List.length_append]; omega) hmem (fun b => by rw [List.count_append]; have := hT2 b; omega) (fun t ht => hnt t (by simp [ht])) (by omega) (fun z hz => hky z (by rw [kys]; split <;> simp [hz]))
    rw [alk, if_neg (fun h => by
      have := hkey (by unfold kyP; exact h.1)
      rw [h.2] at this
      cases this), e1]
    simp only
    rw [e2, Nat.add_assoc]
theorem alw_ly {ns : List Nd} {nm : Nat → Ln} {N : Nat} {T : Nat → Nat} (hk : ∀ a, a < N → ∀ b ∈ kd ns a, b < N) (hP : ∀ a, a < N → ∀ b ∈ (ns.getD a nd0).kids, isP N b = true)
    (hral : ∀ a, a < N → ral (ns.getD a nd0).kind (ns.getD a nd0).text [] (ns.getD a nd0).kids.length = true) (hnam : ∀ a, nm a ≠ [] → isName (nm a) = true) (hsh : ∀ b, 2 ≤ T b → nm b ≠ []) (hns : ∀ b, T b ≤ 1 → nm b = [])
    (hky : ∀ a, a < N → ∀ c ∈ kys (ns.getD a nd0).kind 0 (ns.getD a nd0).kids, T c.toNat ≤ 1 ∧ sca (ns.getD c.toNat nd0).kind = true) :
    ∀ (d D : Nat), d ≤ D → ∀ (m deep : Nat), deep + m = 64 → ∀ (a : Nat) (out L : List Nat) (n : Nat), OkO N out → a < N → N < d + out.length → (∀ b, b ∈ out ↔ b ∈ L) → (∀ b, L.count b + (lyT ns nm d a out).2.2.count b ≤ T b) → nst m (lyT ns nm d a out).1 → n + (lyT ns nm d a out).2.2.length ≤ 4096 →
      alw D deep (lyT ns nm d a out).1 n = some (n + (lyT ns nm d a out).2.2.length) ∧ (a ∉ out → (lyT ns nm d a out).1.kind = (ns.getD a nd0).kind ∧ (lyT ns nm d a out).1.anc = nm a)
  | 0, D, _, m, deep, _, a, out, L, n, ho, _, hd, _, _, _, _ => absurd ho.le (by omega)
  | d + 1, 0, hD, _, _, _, _, _, _, _, _, _, _, _, _, _, _ => absurd hD (by omega)
  | d + 1, D + 1, hD, m, deep, hm, a, out, L, n, ho, ha, hd, hL, hT, hnt, hn => by
    by_cases h : a ∈ out
    · rw [ly_old h] at hT hnt hn ⊢
      have h1 := hT a
      have h2 : 0 < L.count a := List.count_pos_iff.2 ((hL a).1 h)
      rw [show [a].count a = 1 by simp] at h1
      have h3 := hsh a (by omega)
      refine ⟨?_, fun h' => absurd h h'⟩
      have hl : isLst ⟨7, [], nm a, []⟩ = false := rfl
      rw [alw, hl]
      simp only [List.length_singleton] at hn ⊢
      have hr : ral 7 [] (nm a) ([] : List Tr).length = true := by
        unfold ral ran
        rw [if_neg h3, hnam a h3]
        rfl
      rw [hr, if_neg (by simp; omega), alk]
    · rw [ly_new h] at hT hnt hn ⊢
      simp only [List.length_cons] at hT hnt hn ⊢
      refine ⟨?_, by simp⟩
      have hs : OkO N (out ++ [a]) := ho.snoc ha h
      have hkl : kd ns a = (ns.getD a nd0).kids.map Int.toNat := rfl
      have hr := ral_anc (hral a ha) (hnam a)
      rw [alw]
      simp only
      have hlen : (lyK (lyT ns nm d) (kd ns a) (out ++ [a])).1.length = (ns.getD a nd0).kids.length := by rw [lyK_len, hkl, List.length_map]
      rw [hlen, hr]
      obtain ⟨md, hmd⟩ : ∃ md, md = (if isLst ⟨(ns.getD a nd0).kind, (ns.getD a nd0).text, nm a, (lyK (lyT ns nm d) (kd ns a) (out ++ [a])).1⟩ = true then m - 1 else m) := ⟨_, rfl⟩
      by_cases hl : isLst ⟨(ns.getD a nd0).kind, (ns.getD a nd0).text, nm a, (lyK (lyT ns nm d) (kd ns a) (out ++ [a])).1⟩ = true
      · obtain ⟨m', rfl⟩ : ∃ m', m = m' + 1 := by
          cases m with
          | zero => rw [nst, hl] at hnt; cases hnt
          | succ m' => exact ⟨m', rfl⟩
        rw [if_pos hl, if_neg (by simp; omega)]
        have hnk := hnt hl
        simp only at hnk
        rw [hkl] at hnk hT hn ⊢
        rw [alk_ly (T := T) hk hns (fun a out L n => alw_ly hk hP hral hnam hsh hns hky d D (by omega) m' (deep + 1) (by omega) a out L n) (ns.getD a nd0).kind (ns.getD a nd0).kids 0 (out ++ [a]) (L ++ [a]) (n + 1) hs (hP a ha) (by rw [List.length_append, List.length_singleton]; omega) (fun b => by rw [List.mem_append, List.mem_append, hL b]) (fun b => by
          have := hT b
          rw [List.count_cons] at this
          rw [List.count_append, List.count_cons, List.count_nil]
          omega) hnk (by omega) (hky a ha)]
        congr 1
        omega
      · have hz := kids_nil (t := ⟨(ns.getD a nd0).kind, (ns.getD a nd0).text, nm a, (lyK (lyT ns nm d) (kd ns a) (out ++ [a])).1⟩) (by simp only; rw [hlen]; exact hr) hl
        simp only at hz
        have hkn : (ns.getD a nd0).kids = [] := by
          rw [hz] at hlen
          exact List.length_eq_zero_iff.1 hlen.symm
        have hll : (lyK (lyT ns nm d) (kd ns a) (out ++ [a])).2.2 = [] := by rw [hkl, hkn]; rfl
        rw [if_neg hl, if_neg (by simp; omega), hz, alk, hll]
        rfl
end Go.Proofs.YtaphijgbebhdlaaGreatDoor.Grp
end

section
/- How many Anchors and Aliases a graph's tree has. -/
namespace Go.Proofs.YtaphijgbebhdlaaGreatDoor.Grp
open Utf Rws Pln Flw
set_option linter.unusedSimpArgs false
set_option linter.unusedVariables false

/-- Anchors and Aliases of a tree -/
def anT : Nat → Tr → Nat × Nat
  | 0, _ => (0, 0)
  | d + 1, t => ((if t.kind = 7 then 0 else if t.anc = [] then 0 else 1) + (t.kids.map fun k => (anT d k).1).sum, (if t.kind = 7 then 1 else 0) + (t.kids.map fun k => (anT d k).2).sum)
def sh1 (nm : Nat → Ln) (l : List Nat) : Nat := (l.map fun x => if nm x = [] then 0 else 1).sum
theorem sh1_app (nm : Nat → Ln) (l m : List Nat) : sh1 nm (l ++ m) = sh1 nm l + sh1 nm m := by unfold sh1; rw [List.map_append, List.sum_append]
theorem anK_ly {ns : List Nd} {nm : Nat → Ln} {N d D : Nat} (hk : ∀ a, a < N → ∀ b ∈ kd ns a, b < N)
    (hf : ∀ (a : Nat) (out : List Nat), OkO N out → a < N → N < d + out.length → sh1 nm out + (anT D (lyT ns nm d a out).1).1 = sh1 nm (lyT ns nm d a out).2.1 ∧ (anT D (lyT ns nm d a out).1).2 + (lyT ns nm d a out).2.1.length = out.length + (lyT ns nm d a out).2.2.length) :
    ∀ (l out : List Nat), OkO N out → (∀ b ∈ l, b < N) → N < d + out.length → sh1 nm out + ((lyK (lyT ns nm d) l out).1.map fun k => (anT D k).1).sum = sh1 nm (lyK (lyT ns nm d) l out).2.1 ∧ ((lyK (lyT ns nm d) l out).1.map fun k => (anT D k).2).sum + (lyK (lyT ns nm d) l out).2.1.length = out.length + (lyK (lyT ns nm d) l out).2.2.length
  | [], out, ho, _, _ => by simp [lyK]
  | b :: l, out, ho, hl, hd => by
    obtain ⟨e1, e2⟩ := hf b out ho (hl b (by simp)) hd
    obtain ⟨n1, Q1⟩ := ly_t (nm := nm) hk d b out ho (hl b (by simp)) hd
    obtain ⟨f1, f2⟩ := anK_ly hk hf l (lyT ns nm d b out).2.1 Q1.ok (fun c hc => hl c (by simp [hc])) (by rw [Q1.e, List.length_append]; omega)
    rw [show (lyK (lyT ns nm d) (b :: l) out).1 = (lyT ns nm d b out).1 :: (lyK (lyT ns nm d) l (lyT ns nm d b out).2.1).1 from rfl, show (lyK (lyT ns nm d) (b :: l) out).2.1 = (lyK (lyT ns nm d) l (lyT ns nm d b out).2.1).2.1 from rfl, show (lyK (lyT ns nm d) (b :: l) out).2.2 = (lyT ns nm d b out).2.2 ++ (lyK (lyT ns nm d) l (lyT ns nm d b out).2.1).2.2 from rfl, List.map_cons, List.map_cons, List.sum_cons, List.sum_cons, List.length_append]
    omega
theorem an_ly {ns : List Nd} {nm : Nat → Ln} {N : Nat} (hk : ∀ a, a < N → ∀ b ∈ kd ns a, b < N) (h7 : ∀ a, a < N → (ns.getD a nd0).kind ≠ 7) : ∀ (d D : Nat), d ≤ D → ∀ (a : Nat) (out : List Nat), OkO N out → a < N → N < d + out.length →
      sh1 nm out + (anT D (lyT ns nm d a out).1).1 = sh1 nm (lyT ns nm d a out).2.1 ∧ (anT D (lyT ns nm d a out).1).2 + (lyT ns nm d a out).2.1.length = out.length + (lyT ns nm d a out).2.2.length
  | 0, D, _, a, out, ho, _, hd => absurd ho.le (by omega)
  | d + 1, 0, hD, _, _, _, _, _ => absurd hD (by omega)
  | d + 1, D + 1, hD, a, out, ho, ha, hd => by
    by_cases h : a ∈ out
    · rw [ly_old h, anT]
      simp
      omega
    · rw [ly_new h, anT]
      simp only
      rw [if_neg (h7 a ha), if_neg (h7 a ha)]
      obtain ⟨e1, e2⟩ := anK_ly (D := D) (nm := nm) hk (fun a out => an_ly hk h7 d D (by omega) a out) (kd ns a) (out ++ [a]) (ho.snoc ha h) (hk a ha) (by rw [List.length_append, List.length_singleton]; omega)
      rw [sh1_app] at e1
      rw [List.length_append, List.length_singleton] at e2
      have e3 : sh1 nm [a] = if nm a = [] then 0 else 1 := by simp [sh1]
      rw [e3] at e1
      rw [List.length_cons]
      omega
end Go.Proofs.YtaphijgbebhdlaaGreatDoor.Grp
end

section
/- The Anchors' names: a and a number, by the order of what is shared. -/
namespace Go.Proofs.YtaphijgbebhdlaaGreatDoor.Grp
open Utf Rws Pln Flw
set_option linter.unusedSimpArgs false
set_option linter.unusedVariables false

/-- how often a place is gone to -/
def tmG (ns : List Nd) (r b : Nat) : Nat := (if r = b then 1 else 0) + ((odG ns r).map fun x => (kd ns x).count b).sum
/-- what is shared, in order -/
def shL (ns : List Nd) (r : Nat) : List Nat := (odG ns r).filter fun b => decide (1 < tmG ns r b)
/-- a place's Anchor -/
def nmG (ns : List Nd) (r b : Nat) : Ln := if b ∈ shL ns r then 97 :: Lib.itoa (((shL ns r).idxOf b + 1 : Nat) : Int) else []
theorem tm_in {ns : List Nd} {r b : Nat} (hk : ∀ n ∈ ns, ∀ a ∈ n.kids, isP ns.length a = true) (hr : r < ns.length) (h : 0 < tmG ns r b) : b ∈ odG ns r := by
  by_cases e : r = b
  · subst e; exact (od_pos ns r).2.2
  · unfold tmG at h
    rw [if_neg e, Nat.zero_add] at h
    have : ∃ x ∈ odG ns r, b ∈ kd ns x := by
      generalize odG ns r = O at h
      induction O with
      | nil => simp at h
      | cons y t ih =>
        rw [List.map_cons, List.sum_cons] at h
        by_cases q : b ∈ kd ns y
        · exact ⟨y, by simp, q⟩
        · rw [List.count_eq_zero_of_not_mem q, Nat.zero_add] at h
          obtain ⟨x, hx, hb⟩ := ih h
          exact ⟨x, by simp [hx], hb⟩
    obtain ⟨x, hx, hb⟩ := this
    exact odG_cl hk hr x hx b hb
theorem sh_iff {ns : List Nd} {r b : Nat} (hk : ∀ n ∈ ns, ∀ a ∈ n.kids, isP ns.length a = true) (hr : r < ns.length) : b ∈ shL ns r ↔ 1 < tmG ns r b := by
  unfold shL
  rw [List.mem_filter, decide_eq_true_iff]
  exact ⟨fun h => h.2, fun h => ⟨tm_in hk hr (by omega), h⟩⟩
theorem nm_ne {ns : List Nd} {r b : Nat} : nmG ns r b ≠ [] ↔ b ∈ shL ns r := by
  unfold nmG
  by_cases h : b ∈ shL ns r <;> simp [h]
theorem itoa_inj {v u : Int} (hv : inI v) (hu : inI u) (h : Lib.itoa v = Lib.itoa u) : v = u := by
  have h1 := numA_itoa v hv
  rw [h, numA_itoa u hu] at h1
  injection h1 with h1
  exact h1.symm
theorem sh_len (ns : List Nd) (r : Nat) : (shL ns r).length ≤ (odG ns r).length := List.length_filter_le _ _
theorem nm_inj {ns : List Nd} {r : Nat} (hl : (odG ns r).length ≤ 1000000000) : ∀ a b, nmG ns r a ≠ [] → nmG ns r a = nmG ns r b → a = b := fun a b h e => by
  have ha := nm_ne.1 h
  have hb : b ∈ shL ns r := nm_ne.1 (by rw [← e]; exact h)
  unfold nmG at e
  rw [if_pos ha, if_pos hb] at e
  injection e with _ e
  have h1 := List.idxOf_lt_length_of_mem ha
  have h2 := List.idxOf_lt_length_of_mem hb
  have h3 := sh_len ns r
  have := itoa_inj (by constructor <;> omega) (by constructor <;> omega) e
  exact idx_inj ha hb (by omega)
theorem nm_name {ns : List Nd} {r a : Nat} (hl : (odG ns r).length ≤ 1000000000) (h : nmG ns r a ≠ []) : isName (nmG ns r a) = true := by
  have ha := nm_ne.1 h
  have h1 := List.idxOf_lt_length_of_mem ha
  have h3 := sh_len ns r
  unfold nmG
  rw [if_pos ha]
  generalize (shL ns r).idxOf a = i at h1
  have hI : inI ((i + 1 : Nat) : Int) := by constructor <;> omega
  have h4 := itoa_len _ hI
  unfold isName
  rw [Bool.and_eq_true, Bool.and_eq_true, decide_eq_true_iff, decide_eq_true_iff, List.all_eq_true, List.length_cons]
  refine ⟨⟨fun c hc => ?_, by omega⟩, by omega⟩
  rcases List.mem_cons.1 hc with rfl | hc
  · rfl
  · rw [itoa_pos (by omega)] at hc
    have hd := List.all_eq_true.1 (dd_dig _).1 c hc
    unfold dig at hd
    unfold letter
    rw [Bool.and_eq_true, decide_eq_true_iff, decide_eq_true_iff] at hd
    have e : (decide (48 ≤ c.toNat) && decide (c.toNat ≤ 57)) = true := by rw [decide_eq_true hd.1, decide_eq_true hd.2]; rfl
    rw [e]
    simp
end Go.Proofs.YtaphijgbebhdlaaGreatDoor.Grp
end

section
/- How deep a graph is gone down, as plain functions. -/
namespace Go.Proofs.YtaphijgbebhdlaaGreatDoor.Grp
open Utf Rws Pln Flw
set_option linter.unusedSimpArgs false
set_option linter.unusedVariables false

/-- one more, if it is a list -/
def lsN (ns : List Nd) (a : Nat) : Nat := if (ns.getD a nd0).kind = 5 ∨ (ns.getD a nd0).kind = 6 then 1 else 0
def dgK (f : Nat → List Nat × Nat → List Nat × Nat) : List Nat → List Nat × Nat → List Nat × Nat
  | [], s => s
  | b :: l, s => dgK f l (f b s)
/-- going down: what was gone to, and how deep it was -/
def dg (ns : List Nd) : Nat → Nat → Nat → List Nat × Nat → List Nat × Nat
  | 0, _, _, s => s
  | d + 1, a, e, s => if a ∈ s.1 then s else dgK (fun b => dg ns d b (e + lsN ns a)) (kd ns a) (s.1 ++ [a], max s.2 (e + lsN ns a))
theorem dg_old {ns : List Nd} {d a e : Nat} {s : List Nat × Nat} (h : a ∈ s.1) : dg ns (d + 1) a e s = s := by rw [dg, if_pos h]
theorem dg_new {ns : List Nd} {d a e : Nat} {s : List Nat × Nat} (h : a ∉ s.1) : dg ns (d + 1) a e s = dgK (fun b => dg ns d b (e + lsN ns a)) (kd ns a) (s.1 ++ [a], max s.2 (e + lsN ns a)) := by rw [dg, if_neg h]
theorem dgK_out {f : Nat → List Nat × Nat → List Nat × Nat} {g : Nat → List Nat → Tr × List Nat × List Nat} (h : ∀ b s, (f b s).1 = (g b s.1).2.1) : ∀ (l : List Nat) (s : List Nat × Nat), (dgK f l s).1 = (lyK g l s.1).2.1
  | [], s => rfl
  | b :: l, s => by
    show (dgK f l (f b s)).1 = (lyK g l (g b s.1).2.1).2.1
    rw [dgK_out h l, h]
theorem dg_out {ns : List Nd} (nm : Nat → Ln) : ∀ (d a e : Nat) (s : List Nat × Nat), (dg ns d a e s).1 = (lyT ns nm d a s.1).2.1
  | 0, a, e, s => rfl
  | d + 1, a, e, s => by
    by_cases h : a ∈ s.1
    · rw [ly_old h, dg_old h]
    · rw [ly_new h, dg_new h]
      exact dgK_out (fun b s => dg_out nm d b _ s) _ _
theorem dgK_le {f : Nat → List Nat × Nat → List Nat × Nat} (h : ∀ b s, s.2 ≤ (f b s).2) : ∀ (l : List Nat) (s : List Nat × Nat), s.2 ≤ (dgK f l s).2
  | [], s => Nat.le_refl _
  | b :: l, s => Nat.le_trans (h b s) (dgK_le h l (f b s))
theorem dg_le {ns : List Nd} : ∀ (d a e : Nat) (s : List Nat × Nat), s.2 ≤ (dg ns d a e s).2
  | 0, a, e, s => Nat.le_refl _
  | d + 1, a, e, s => by
    by_cases h : a ∈ s.1
    · rw [dg_old h]; exact Nat.le_refl _
    · rw [dg_new h]
      exact Nat.le_trans (Nat.le_max_left s.2 (e + lsN ns a)) (dgK_le (f := fun b => dg ns d b (e + lsN ns a)) (fun b s => dg_le d b (e + lsN ns a) s) (kd ns a) (s.1 ++ [a], max s.2 (e + lsN ns a)))
theorem dgK_bd {f : Nat → List Nat × Nat → List Nat × Nat} {B : Nat} (h : ∀ b s, s.2 ≤ B → (f b s).2 ≤ B) : ∀ (l : List Nat) (s : List Nat × Nat), s.2 ≤ B → (dgK f l s).2 ≤ B
  | [], s, hs => hs
  | b :: l, s, hs => dgK_bd h l (f b s) (h b s hs)
theorem lsN_le (ns : List Nd) (a : Nat) : lsN ns a ≤ 1 := by unfold lsN; split <;> omega
theorem dg_bd {ns : List Nd} {B : Nat} : ∀ (d a e : Nat) (s : List Nat × Nat), s.2 ≤ B → e + d ≤ B → (dg ns d a e s).2 ≤ B
  | 0, a, e, s, hs, _ => hs
  | d + 1, a, e, s, hs, he => by
    have hl := lsN_le ns a
    by_cases h : a ∈ s.1
    · rw [dg_old h]; exact hs
    · rw [dg_new h]
      exact dgK_bd (fun b s hs => dg_bd d b _ s hs (by omega)) _ _ (Nat.max_le.2 ⟨hs, by omega⟩)
theorem nst_leaf {t : Tr} (h : isLst t = false) (m : Nat) : nst m t := by
  cases m with
  | zero => exact h
  | succ m => exact fun h' => by rw [h] at h'; cases h'
theorem dgK_nst {f : Nat → List Nat × Nat → List Nat × Nat} {g : Nat → List Nat → Tr × List Nat × List Nat} {K q e : Nat} (hle : ∀ b s, s.2 ≤ (f b s).2) (h : ∀ b s, e ≤ s.2 → ((f b s).2 ≤ K ↔ s.2 ≤ K ∧ nst q (g b s.1).1)) (ho : ∀ b s, (f b s).1 = (g b s.1).2.1) :
    ∀ (l : List Nat) (s : List Nat × Nat), e ≤ s.2 → ((dgK f l s).2 ≤ K ↔ s.2 ≤ K ∧ ∀ t ∈ (lyK g l s.1).1, nst q t)
  | [], s, _ => ⟨fun h => ⟨h, fun t ht => by cases ht⟩, fun h => h.1⟩
  | b :: l, s, he => by
    have h1 := dgK_nst hle h ho l (f b s) (Nat.le_trans he (hle b s))
    have h2 := h b s he
    rw [ho b s] at h1
    show (dgK f l (f b s)).2 ≤ K ↔ s.2 ≤ K ∧ ∀ t ∈ (g b s.1).1 :: (lyK g l (g b s.1).2.1).1, nst q t
    rw [h1, h2, List.forall_mem_cons]
    exact and_assoc
/-- no more than so many lie within one another, just if so deep was gone -/
theorem dg_nst {ns : List Nd} {nm : Nat → Ln} (hs : ∀ a, lsN ns a = 0 → kd ns a = []) (K : Nat) : ∀ (d a e : Nat) (s : List Nat × Nat), e ≤ s.2 → ((dg ns d a e s).2 ≤ K ↔ s.2 ≤ K ∧ nst (K - e) (lyT ns nm d a s.1).1)
  | 0, a, e, s, _ => ⟨fun h => ⟨h, nst_leaf rfl _⟩, fun h => h.1⟩
  | d + 1, a, e, s, he => by
    by_cases h : a ∈ s.1
    · rw [ly_old h, dg_old h]
      exact ⟨fun h => ⟨h, nst_leaf rfl _⟩, fun h => h.1⟩
    · rw [ly_new h, dg_new h]
      have hk : (ns.getD a nd0).kind = 5 ∨ (ns.getD a nd0).kind = 6 ∨ lsN ns a = 0 := by
        unfold lsN
        by_cases h5 : (ns.getD a nd0).kind = 5
        · exact .inl h5
        by_cases h6 : (ns.getD a nd0).kind = 6
        · exact .inr (.inl h6)
        · exact .inr (.inr (if_neg (by rintro (h | h) <;> contradiction)))
      by_cases hz : lsN ns a = 0
      · rw [hs a hz, hz]
        have hl : isLst ⟨(ns.getD a nd0).kind, (ns.getD a nd0).text, nm a, []⟩ = false := by
          unfold lsN at hz
          by_cases h5 : (ns.getD a nd0).kind = 5
          · rw [if_pos (.inl h5)] at hz; omega
          by_cases h6 : (ns.getD a nd0).kind = 6
          · rw [if_pos (.inr h6)] at hz; omega
          show (decide ((ns.getD a nd0).kind = 5) || decide ((ns.getD a nd0).kind = 6)) = false
          rw [decide_eq_false h5, decide_eq_false h6]; rfl
        show max s.2 (e + 0) ≤ K ↔ s.2 ≤ K ∧ nst (K - e) ⟨(ns.getD a nd0).kind, (ns.getD a nd0).text, nm a, []⟩
        have hn := nst_leaf hl (K - e)
        rw [Nat.max_le]
        exact ⟨fun h => ⟨h.1, hn⟩, fun h => ⟨h.1, by omega⟩⟩
      · have h1 : lsN ns a = 1 := by have := lsN_le ns a; omega
        have hl : isLst ⟨(ns.getD a nd0).kind, (ns.getD a nd0).text, nm a, (lyK (lyT ns nm d) (kd ns a) (s.1 ++ [a])).1⟩ = true := by
          show (decide ((ns.getD a nd0).kind = 5) || decide ((ns.getD a nd0).kind = 6)) = true
          rcases hk with h5 | h6 | h0
          · rw [decide_eq_true h5]; rfl
          · rw [decide_eq_true h6, Bool.or_true]
          · exact absurd h0 hz
        rw [h1]
        rw [dgK_nst (g := lyT ns nm d) (K := K) (q := K - (e + 1)) (e := e + 1) (fun b s => dg_le d b _ s) (fun b s hb => dg_nst hs K d b (e + 1) s hb) (fun b s => dg_out nm d b _ s) (kd ns a) (s.1 ++ [a], max s.2 (e + 1)) (Nat.le_max_right _ _), Nat.max_le]
        by_cases hK : e + 1 ≤ K
        · obtain ⟨q, hq⟩ : ∃ q, K - e = q + 1 := ⟨K - e - 1, by omega⟩
          have hq2 : K - (e + 1) = q := by omega
          rw [hq, hq2]
          exact ⟨fun h => ⟨h.1.1, fun _ => h.2⟩, fun h => ⟨⟨h.1, hK⟩, h.2 hl⟩⟩
        · refine ⟨fun h => absurd h.1.2 hK, fun h => ?_⟩
          have h0 : K - e = 0 := by omega
          have h2 := h.2
          rw [h0] at h2
          exact absurd (hl.symm.trans h2) (by decide)
end Go.Proofs.YtaphijgbebhdlaaGreatDoor.Grp
end
