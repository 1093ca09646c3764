/- Several texts as one: LayShd. -/
import Derived.Test.YtcplgjclkjcekaaGreatDoorYLayBkS
import Derived.Test.YtcplgjclkjcekaaGreatDoorYLayCnt
import Derived.Test.YtcplgjclkjcekaaGreatDoorY21LaySz
section
/- LayShared: the law's walk. -/
namespace Go.Proofs.YtcplgjclkjcekaaGreatDoor.Grp
open Utf Rws Pln Flw
open Go.RowKit
set_option linter.unusedSimpArgs false
set_option linter.unusedVariables false
set_option maxRecDepth 100000
set_option maxHeartbeats 4000000

theorem nd_count : ∀ {l : List Nat}, (∀ b, l.count b ≤ 1) → l.Nodup
  | [], _ => List.nodup_nil
  | a :: l, h => List.nodup_cons.2 ⟨fun hm => by
      have h1 := List.count_pos_iff.2 hm
      have h2 := h a
      rw [List.count_cons_self] at h2
      omega, nd_count fun b => by
      have h2 := h b
      rw [List.count_cons] at h2
      omega⟩
theorem nd_sub : ∀ {l m : List Nat}, l.Nodup → (∀ x ∈ l, x ∈ m) → l.length ≤ m.length
  | [], m, _, _ => Nat.zero_le _
  | a :: l, m, h, hs => by
    obtain ⟨h1, h2⟩ := List.nodup_cons.1 h
    have h3 := nd_sub (m := m.erase a) h2 (fun x hx => (List.mem_erase_of_ne (fun e : x = a => h1 (by rw [← e]; exact hx))).2 (hs x (by simp [hx])))
    have h4 := List.length_erase_of_mem (hs a (by simp))
    have h5 : 0 < m.length := List.length_pos_of_mem (hs a (by simp))
    rw [List.length_cons]
    omega
/-- where nothing is shared there is no Alias -/
theorem no_alias {g : Gr} {D : Nat} (h : LyOk g D) (hs : (shL g.nodes g.root.toNat).length = 0) : (anT D (lyG g)).2 = 0 := by
  have h1 := h.an2
  have h2 := h.sz
  have h0 := h.rg
  obtain ⟨ns, r⟩ := g
  simp only at h1 h2 hs ⊢
  obtain ⟨f1, f2, f3⟩ := rgG_facts h0
  obtain ⟨m, rfl, hm⟩ := isP_nat f2
  rw [Int.toNat_natCast] at h1 h2 hs
  obtain ⟨nw, R⟩ := ly_t (nm := nmG ns m) (kd_lt f3 rfl) (ns.length + 1) m [] ⟨List.nodup_nil, fun b hb => by cases hb⟩ hm (by simp)
  have e1 : (lyT ns (nmG ns m) (ns.length + 1) m []).2.1 = odG ns m := ly_od f3 hm (Nat.lt_succ_self _)
  have e2 := R.e
  rw [e1, List.nil_append] at e2
  have hc : ∀ b, (lyT ns (nmG ns m) (ns.length + 1) m []).2.2.count b ≤ 1 := fun b => by
    have h3 := R.cn b
    have h4 : ¬ 1 < tmG ns m b := fun q => by
      have := (sh_iff f3 hm).2 q
      rw [List.length_eq_zero_iff.1 hs] at this
      cases this
    rw [← e2] at h3
    have h5 : (lyT ns (nmG ns m) (ns.length + 1) m []).2.2.count b = tmG ns m b := by
      rw [h3]
      unfold tmG
      congr 1
      by_cases e : m = b
      · subst e; simp
      · rw [if_neg e]; simp [e]
    omega
  have h6 := nd_sub (nd_count hc) (m := odG ns m) (fun x hx => by
    rw [← e1]
    exact (R.mem x).2 (.inr hx))
  omega
theorem shared_core {w : World} {ad : Option Addr} {len cap : Nat} {r : Int} {ns : List Nd} (hg : GrV w (gv ad len cap r) ⟨ns, r⟩) (hT : Tb w) :
    Calls Tryz.prog 5 #[gv ad len cap r] w fun e w' => e = .returned (.bool true) ∧ Below w.heap.size w w' := by
  have HA : Hid (∀ W, Below w.heap.size w W → Calls Tryz.prog 8 #[] W fun e W' => e = .returned (.bool true) ∧ Hid (Below w.heap.size w W')) := fun W b => (alive_any (hT.later b)).mono (fun e W' q => ⟨q.1, b.trans (q.2.mono b.size)⟩)
  have HL : Hid (∀ W K, Hid (AgS w W K ad len cap r ns) → Calls Tryz.prog 7 #[gv ad len cap r] W fun e W' => e = .returned (.bool (lgB ns)) ∧ Hid (AgS w W' K ad len cap r ns)) := fun W K h => (large_any h.out.g).mono (fun e W' q => ⟨q.1, h.out.later q.2⟩)
  have h0 : AgS w (w.alloc (.cells #[.slice ad len cap, .int .i64 r] 24)) w.heap.size ad len cap r ns := AgS.new (Below.refl _ _) hg
  cases hl : lgB ns
  case true =>
    rw [hl] at HL
    clear hT hl
    go_enter Tryz.func5, Tryz.ntmps5
    go_upto_region 1 with fail
    generalize w.alloc (.cells #[.slice ad len cap, .int .i64 r] 24) = W0 at h0 ⊢
    obtain ⟨K0, hK0⟩ : ∃ K0, K0 = w.heap.size := ⟨_, rfl⟩
    rw [← hK0] at h0 ⊢
    have H0 : Hid (AgS w W0 K0 ad len cap r ns) := h0
    clear hK0 h0
    obtain ⟨c0, c1⟩ := H0.out.b.c2
    go_wp2_with (first | (go_at_call 7; refine (HL.out _ _ H0).mono ?_; rintro e w1 ⟨rfl, H1⟩) | (go_at_call 8; refine (HA.out _ H1.out.bl).mono ?_; rintro e w2 ⟨rfl, H2⟩))
    go_ret
    exact ⟨rfl, H2.out⟩
  case false =>
  rw [hl] at HL
  have hS := lgB_sml hl
  have HTr : Hid (∀ W K, Hid (AgS w W K ad len cap r ns) → Calls Tryz.prog 9 #[gv ad len cap r] W fun e W' => ∃ (k : Int) (x y : ByteArray) (ra : Option Addr) (rl rc : Nat), e = .returned (.tuple #[.agg #[.int .i64 k, .string x, .string y, .slice ra rl rc], .int .i64 (lyE ⟨ns, r⟩)]) ∧ Hid (TrV W' (ns.length + 80) (.agg #[.int .i64 k, .string x, .string y, .slice ra rl rc]) (lyG ⟨ns, r⟩)) ∧ Hid (AgS w W' K ad len cap r ns)) := fun W K h => (ttree_any h.out.g hS (hT.later h.out.bl)).mono (fun e W' q => by
    obtain ⟨k, x, y, ra, rl, rc, q1, q2, q3⟩ := q
    exact ⟨k, x, y, ra, rl, rc, q1, q2.out.v.more (by show ns.length + 1 ≤ _; omega), h.out.later q3.out⟩)
  by_cases hE : lyE ⟨ns, r⟩ = 0
  · have hok := ly_ok hE (D := ns.length + 80) (by show ns.length + 1 ≤ _; omega)
    rw [hE] at HTr
    have hal : (shL ns r.toNat).length = 0 → (anT (ns.length + 80) (lyG ⟨ns, r⟩)).2 = 0 := no_alias hok
    have h1 : (anT (ns.length + 80) (lyG ⟨ns, r⟩)).1 = (shL ns r.toNat).length := hok.an1
    have h2 : (anT (ns.length + 80) (lyG ⟨ns, r⟩)).2 + (odG ns r.toNat).length = szG ns r.toNat := hok.an2
    have h4 : szG ns r.toNat ≤ 4096 := hok.s4
    have htz : tsz (ns.length + 80) (lyG ⟨ns, r⟩) ≤ 1000000000 := by have h5 : _ = szG ns r.toNat := hok.tz; omega
    obtain ⟨n1, n2⟩ : (odG ns r.toNat).length ≤ 4096 ∧ (shL ns r.toNat).length ≤ 4096 := by
      have := sh_len ns r.toNat
      omega
    have HSh : Hid (∀ W K, Hid (AgS w W K ad len cap r ns) → Calls Tryz.prog 18 #[gv ad len cap r] W fun e W' => ∃ oa oc, e = .returned (.tuple #[.slice oa (shL ns r.toNat).length oc, .int .i64 0]) ∧ Hid (Below W.heap.size W W')) := fun W K h => (Alk.pshared_any h.out.g hS (hT.later h.out.bl)).mono (fun e W' q => by
      obtain ⟨q, _⟩ := q
      rw [hok.rg, shO_shL] at q
      obtain ⟨oa, oc, q1, _, _, q4⟩ := ores_yesS q
      exact ⟨oa, oc, q1, q4⟩)
    have HOr : Hid (∀ W K, Hid (AgS w W K ad len cap r ns) → Calls Tryz.prog 19 #[gv ad len cap r] W fun e W' => ∃ oa oc, e = .returned (.tuple #[.slice oa (odG ns r.toNat).length oc, .int .i64 0]) ∧ Hid (Below W.heap.size W W')) := fun W K h => (order_any h.out.g hS (hT.later h.out.bl)).mono (fun e W' q => by
      rw [hok.rg] at q
      obtain ⟨oa, oc, q1, _, _, q4⟩ := ores_yesS q
      exact ⟨oa, oc, q1, q4⟩)
    have HSz : Hid (∀ W K, Hid (AgS w W K ad len cap r ns) → Calls Tryz.prog 20 #[gv ad len cap r] W fun e W' => e = .returned (.tuple #[.int .i64 ((szG ns r.toNat : Nat) : Int), .int .i64 0]) ∧ Hid (Below W.heap.size W W')) := fun W K h => (size_any h.out.g hS (hT.later h.out.bl)).mono (fun e W' q => by
      obtain ⟨q1, q2⟩ := q
      rw [hok.rg, if_pos rfl] at q1
      exact ⟨q1, q2⟩)
    have HAn : Hid (∀ W K k x y ra rl rc, Hid (TgS w W K k x y ra rl rc (ns.length + 80) (lyG ⟨ns, r⟩)) → Calls Tryz.prog 21 #[.agg #[.int .i64 k, .string x, .string y, .slice ra rl rc]] W fun e W' => e = .returned (.tuple #[.int .i64 (((shL ns r.toNat).length : Nat) : Int), .int .i64 (((anT (ns.length + 80) (lyG ⟨ns, r⟩)).2 : Nat) : Int)]) ∧ Hid (Below W.heap.size W W')) := fun W K k x y ra rl rc h => (anchors_any h.out.t htz).mono (fun e W' q => by
      rw [h1] at q
      exact ⟨q.1, q.2⟩)
    generalize (shL ns r.toNat).length = S at *
    generalize (odG ns r.toNat).length = O at *
    generalize szG ns r.toNat = Z at *
    generalize (anT (ns.length + 80) (lyG ⟨ns, r⟩)).2 = B at *
    generalize lyG ⟨ns, r⟩ = T at *
    generalize ns.length + 80 = D at *
    have hZ : (Z : Int) - (O : Int) = (B : Int) := by omega
    have hB4 : B ≤ 4096 := by omega
    have hw : IntKind.i64.wrap (B : Int) = (B : Int) := Utf.wrap_small B (by omega)
    have hbb : ((B : Int) == (B : Int)) = true := by simp
    have hss : ((S : Int) == (S : Int)) = true := by simp
    have hk : (0 : Int) < (S : Int) ∨ (¬ (0 : Int) < (S : Int)) ∧ ((B : Int) == 0) = true := by
      by_cases h : 0 < S
      · exact .inl (by omega)
      · exact .inr ⟨by omega, by have := hal (by omega); simp [this]⟩
    have hBb : (B : Int) ≤ 4096 := by omega
    clear hT hl hE hok hS hg hal h1 h2 h4 htz
    go_enter Tryz.func5, Tryz.ntmps5
    go_upto_region 1 with fail
    generalize w.alloc (.cells #[.slice ad len cap, .int .i64 r] 24) = W0 at h0 ⊢
    obtain ⟨K0, hK0⟩ : ∃ K0, K0 = w.heap.size := ⟨_, rfl⟩
    rw [← hK0] at h0 ⊢
    have H0 : Hid (AgS w W0 K0 ad len cap r ns) := h0
    clear hK0 h0
    obtain ⟨c0, c1⟩ := H0.out.b.c2
    go_upto_region 4 with (first | (go_at_call 7; refine (HL.out _ _ H0).mono ?_; rintro e w1 ⟨rfl, H1⟩; obtain ⟨d0, d1⟩ := H1.out.b.c2) | (go_at_call 9; refine (HTr.out _ _ H1).mono ?_; rintro e w2 ⟨k, x, y, ra, rl, rc, rfl, T2, H2⟩))
    have T3 : Hid (TgS w (w2.alloc (.cells #[.int .i64 k, .string x, .string y, .slice ra rl rc] 29)) w2.heap.size k x y ra rl rc D T) := TgS.new H2.out.bl T2.out
    have H3 : Hid (AgS w (w2.alloc (.cells #[.int .i64 k, .string x, .string y, .slice ra rl rc] 29)) K0 ad len cap r ns) := H2.out.later (below_alloc _ _)
    generalize w2.alloc (.cells #[.int .i64 k, .string x, .string y, .slice ra rl rc] 29) = w3 at T3 H3 ⊢
    generalize w2.heap.size = K3 at T3 ⊢
    clear T2 H2 H1 H0 c0 c1 d0 d1 HL HTr
    obtain ⟨c0, c1⟩ := H3.out.b.c2
    go_upto_region 10 with (first
      | (go_at_call 18; refine (HSh.out _ _ H3).mono ?_; rintro e w4 ⟨sa, sc, rfl, B4⟩; have H4 : Hid (AgS w w4 K0 ad len cap r ns) := H3.out.later B4.out; have T4 : Hid (TgS w w4 K3 k x y ra rl rc D T) := T3.out.later B4.out; obtain ⟨d0, d1⟩ := H4.out.b.c2)
      | (go_at_call 19; refine (HOr.out _ _ H4).mono ?_; rintro e w5 ⟨la, lc, rfl, B5⟩; have H5 : Hid (AgS w w5 K0 ad len cap r ns) := H4.out.later B5.out; have T5 : Hid (TgS w w5 K3 k x y ra rl rc D T) := T4.out.later B5.out; obtain ⟨e0, e1⟩ := H5.out.b.c2)
      | (go_at_call 20; refine (HSz.out _ _ H5).mono ?_; rintro e w6 ⟨rfl, B6⟩; have T6 : Hid (TgS w w6 K3 k x y ra rl rc D T) := T5.out.later B6.out; obtain ⟨f0, f1, f2, f3⟩ := T6.out.b.c4)
      | (go_at_call 21; refine (HAn.out _ _ _ _ _ _ _ _ T6).mono ?_; rintro e w7 ⟨rfl, B7⟩; have B8 : Hid (Below w.heap.size w w7) := (T6.out.later B7.out).bl))
    clear c0 c1 d0 d1 e0 e1 f0 f1 f2 f3 H3 T3 H4 T4 H5 T5 T6 B4 B5 B6 B7 HSh HOr HSz HAn
    rcases hk with hk | ⟨hk, hk2⟩
    all_goals
      go_wp2_with (go_at_call 8; refine (HA.out _ B8.out).mono ?_; rintro e w9 ⟨rfl, H9⟩)
      go_ret
      exact ⟨rfl, H9.out⟩
  · have he := lyE_ne hE
    generalize lyE ⟨ns, r⟩ = Er at *
    generalize ns.length + 80 = D at *
    generalize lyG ⟨ns, r⟩ = T at *
    clear hT hl hS hg hE
    go_enter Tryz.func5, Tryz.ntmps5
    go_upto_region 1 with fail
    generalize w.alloc (.cells #[.slice ad len cap, .int .i64 r] 24) = W0 at h0 ⊢
    obtain ⟨K0, hK0⟩ : ∃ K0, K0 = w.heap.size := ⟨_, rfl⟩
    rw [← hK0] at h0 ⊢
    have H0 : Hid (AgS w W0 K0 ad len cap r ns) := h0
    clear hK0 h0
    obtain ⟨c0, c1⟩ := H0.out.b.c2
    go_upto_region 4 with (first | (go_at_call 7; refine (HL.out _ _ H0).mono ?_; rintro e w1 ⟨rfl, H1⟩; obtain ⟨d0, d1⟩ := H1.out.b.c2) | (go_at_call 9; refine (HTr.out _ _ H1).mono ?_; rintro e w2 ⟨k, x, y, ra, rl, rc, rfl, T2, H2⟩))
    have H3 : Hid (Below w.heap.size w (w2.alloc (.cells #[.int .i64 k, .string x, .string y, .slice ra rl rc] 29))) := (H2.out.later (below_alloc _ _)).bl
    generalize w2.alloc (.cells #[.int .i64 k, .string x, .string y, .slice ra rl rc] 29) = w3 at H3 ⊢
    clear T2 H2 H1 H0 c0 c1 d0 d1 HL HTr
    go_wp2_with (go_at_call 8; refine (HA.out _ H3.out).mono ?_; rintro e w5 ⟨rfl, H5⟩)
    go_ret
    exact ⟨rfl, H5.out⟩
theorem lshared_walk (v : Value) (g : Gr) (w : World) (hg : GrV w v g) (hT : Tb w) : Calls Tryz.prog 5 #[v] w fun e w' => e = .returned (.bool true) ∧ Below w.heap.size w w' := by
  have hg2 := hg
  obtain ⟨ad, len, cap, rfl, _⟩ := hg
  exact shared_core hg2 hT
end Go.Proofs.YtcplgjclkjcekaaGreatDoor.Grp
end
