/- The walk of BlockBack. -/
import Derived.Test.YtoamfmockinknaaDoorBlockLay
import Derived.Test.YtoamfmockinknaaDoorBlockAt
import Derived.Test.YtoamfmockinknaaDoorBlockAlive
import Derived.Test.YtoamfmockinknaaDoorBlockMuch
import Derived.Test.YtoamfmockinknaaDoorBlockArg
namespace Go.Proofs.YtoamfmockinknaaDoor.Blk
open Go.RowKit
open Rws (mk mk_data mk_size mk_of mk_ext mk_get mk_inj has lns lns_len lns_mem_len)
set_option linter.unusedSimpArgs false
set_option linter.unusedVariables false
set_option maxRecDepth 100000

theorem atR_mem (c : Int) : ∀ (k : Nat) (l : List Ln) (r : Rw), r ∈ atR c k l → ∃ x ∈ l, r.1 = c + (nb x : Int) ∧ r.2.1 = x.drop (nb x)
  | _, [], r, h => by cases h
  | k, x :: t, r, h => by
    rw [atR] at h
    rcases List.mem_cons.1 h with rfl | h
    · exact ⟨x, by simp, rfl, rfl⟩
    · obtain ⟨y, hy, e⟩ := atR_mem c (k + 1) t r h
      exact ⟨y, by simp [hy], e⟩
theorem atR_ok (c : Int) (k : Nat) (l : List Ln) (hc : c ≤ 1000) (hl : ∀ x ∈ l, x.length ≤ 1048576) : ∀ r ∈ atR c k l, r.1 ≤ 9223372036854775807 ∧ r.2.1.length ≤ 140737488355328 := by
  intro r hr
  obtain ⟨x, hx, h1, h2⟩ := atR_mem c k l r hr
  have h3 := hl x hx
  have h4 := nb_le x
  rw [h1, h2, List.length_drop]
  omega
theorem okC_parts {s : Ln} (h : okC s = true) : has 13 s = false ∧ stC false (lns s) = true := by
  unfold okC at h
  simp only [Bool.and_eq_true, Bool.not_eq_true'] at h
  exact ⟨h.1.2, h.2⟩
theorem rowV_one (rs : List Rw) : ∀ u ∈ rowV rs, u.oneCell' = true := by
  intro u hu
  obtain ⟨r, _, h⟩ := List.mem_flatMap.1 hu
  exact row_one r u h
/-- what was laid, at a column, is taken, whatever stands behind -/
theorem back_take (s : Ln) (c : Nat) (hs : s.length ≤ 5000) (hc : c ≤ 255) (hok : okC s = true) (W : World) (a : Option Addr) (cap : Nat) (B : List Rw) (hB : rws B c = []) (hB2 : ∀ r ∈ B, r.1 ≤ 9223372036854775807 ∧ r.2.1.length ≤ 140737488355328)
    (L : Nat) (hR : RwAt W a L (atR ((c : Int) + 1) 1 (lns s) ++ B)) (hL : L ≤ 1048576) :
    Calls Tryd.prog 12 #[.slice a L cap, .int .i64 (c : Int), .agg #[.bool false, .int .i64 (chC s)]] W fun e w' => e = .returned (.tuple #[.string (mk s), .int .i64 ((lns s).length : Int), .agg #[.int .i64 0, .int .i64 0]]) ∧ Below W.heap.size W w' := by
  obtain ⟨h13, hst⟩ := okC_parts hok
  have hlm : ∀ x ∈ lns s, x.length ≤ 5000 := fun x hx => Nat.le_trans (lns_mem_len _ s (Nat.le_refl _) x hx) hs
  have hlo : lo none (rws (atR ((c : Int) + 1) 1 (lns s) ++ B) c) = .inl (lns s) := by
    rw [rws_at c B hB, lo_lay c (lns s) 1 hst (fun x hx => by have := hlm x hx; omega)]
  have h := take_any a L cap (atR ((c : Int) + 1) 1 (lns s) ++ B) c false (chC s) W hR hL (fun r hr => by
    rcases List.mem_append.1 hr with h | h
    · exact atR_ok _ 1 (lns s) (by omega) (fun x hx => by have := hlm x hx; omega) r h
    · exact hB2 r h) (fun ls q => by
    rw [hlo] at q
    cases q
    have h1 := sumL_bd (lns s) 5000 hlm
    have h2 := lns_len _ s (Nat.le_refl _)
    have h3 := trm_le (lns s)
    have h4 : sumL (trm (lns s)) ≤ sumL (lns s) := by rw [← trm_take (lns s)]; exact sumL_take _ _
    have h5 := join_len 10 (trm (lns s))
    have h6 := fld_len (trm (lns s))
    omega)
  rw [hlo] at h
  have e : takV false (chC s) (.inl (lns s)) = .tuple #[.string (mk s), .int .i64 ((lns s).length : Int), .agg #[.int .i64 0, .int .i64 0]] := by
    show Value.tuple #[.string (mk (txt false (chC s) (lns s))), _, _] = _
    rw [lay_txt s h13 hst]
  rw [e] at h
  exact h
theorem behind_no (c : Nat) (y : UInt8) (t : Ln) (r : List Ln) (hy : y ≠ 32) : rws (atR 0 1 ((y :: t) :: r)) c = [] := by
  have hn : nb (y :: t) = 0 := by unfold nb; rw [List.takeWhile_cons, if_neg (by simpa [Rws.is32] using hy)]; rfl
  rw [atR, rws_cons, hn, if_neg]
  rintro (h | h)
  · cases h
  · simp [mx] at h
    omega

set_option maxHeartbeats 8000000 in
theorem back_walk (s0 : ByteArray) (n0 : Int) (a : Option Addr) (len cap : Nat) (bs : List Ln) (w : World) (hs0 : s0.size ≤ 140737488351232) (hn0 : (Lit.int .u8 n0).wf = true) (h : SArg w a len cap bs) :
    Calls Tryd.prog 4 #[.string s0, .int .u8 n0, .slice a len cap] w fun e w' => e = .returned (.bool true) ∧ Below w.heap.size w w' := by
  obtain ⟨s, rfl⟩ := Rws.mk_ex s0
  obtain ⟨b0, b1⟩ := bounds_u8 hn0
  obtain ⟨c, rfl⟩ : ∃ c : Nat, n0 = (c : Int) := ⟨n0.toNat, by omega⟩
  have hc : c ≤ 255 := by omega
  have hwc : IntKind.i64.wrap (c : Int) = (c : Int) := by rw [IntKind.wrap_i64]; omega
  have hss : (mk s).size = s.length := mk_size s
  rw [hss] at hs0
  obtain ⟨hat, hlc, hcm, hxs⟩ := h
  have HZ : Hid (StrsAt w a len bs) := hat
  have HMU : Hid (Calls Tryd.prog 10 #[.slice a len cap] w fun e w' => e = .returned (.bool (muc bs)) ∧ Below w.heap.size w w') := much_any a len cap bs w hat hlc hcm hxs
  have he := eql_fault
  have hy := eql_style
  unfold maxLen at hcm
  clear hat hxs b0 b1 hn0
  by_cases hbig : 5000 < s.length
  · go_enter Tryd.func4, Tryd.ntmps4
    go_wp2_with fail
    refine (alive_any _).mono ?_
    rintro e w2 ⟨rfl, hb2⟩
    go_wp2
    go_ret
    exact ⟨rfl, hb2⟩
  have hs5 : s.length ≤ 5000 := by omega
  go_enter Tryd.func4, Tryd.ntmps4
  go_wp2_with fail
  refine HMU.out.mono ?_
  rintro e w1 ⟨rfl, hb1⟩
  have s1 := hb1.size
  clear HMU
  cases hmu : muc bs
  · obtain ⟨hl1, hl2⟩ := muc_no hmu
    have HSM : Hid (∀ x ∈ bs, x.length ≤ 20000) := fun x hx => Nat.le_trans (sumL_mem bs x hx) hl2
    have HLB : Hid (bs.length ≤ 1000) := hl1
    clear hmu hl1 hl2
    go_wp2_with fail
    refine (lay_any s _ (by omega)).mono ?_
    intro e w2 hres
    rcases hres with ⟨hok, v, rfl, hown, hb2⟩ | ⟨hok, rfl, hb2⟩
    · have hlm : ∀ x ∈ lns s, x.length ≤ 1048576 := fun x hx => by have := lns_mem_len _ s (Nat.le_refl _) x hx; omega
      have HLM : Hid (∀ x ∈ lns s, x.length ≤ 1048576) := hlm
      have hll : (lns s).length ≤ 5000 := Nat.le_trans (lns_len _ s (Nat.le_refl _)) hs5
      obtain ⟨a1, cap1, rfl, hcap, hat1⟩ := strs_own hown
      have HTK : Hid (∀ (W : World) (a4 : Option Addr) (cap4 L : Nat) (B : List Rw), rws B c = [] → (∀ r ∈ B, r.1 ≤ 9223372036854775807 ∧ r.2.1.length ≤ 140737488355328) → RwAt W a4 L (atR ((c : Int) + 1) 1 (lns s) ++ B) → L ≤ 1048576 → Calls Tryd.prog 12 #[.slice a4 L cap4, .int .i64 (c : Int), .agg #[.bool false, .int .i64 (chC s)]] W fun e w' => e = .returned (.tuple #[.string (mk s), .int .i64 ((lns s).length : Int), .agg #[.int .i64 0, .int .i64 0]]) ∧ Below W.heap.size W w') := fun W a4 cap4 L B q1 q2 q3 q4 => back_take s c hs5 hc hok W a4 cap4 B q1 q2 L q3 q4
      have HRL0 : Hid ((atR ((c : Int) + 1) 1 (lns s)).length = (lns s).length) := atR_len _ _ _
      obtain ⟨C, HC⟩ : ∃ C : Int, C = chC s := ⟨_, rfl⟩
      obtain ⟨N, HN⟩ : ∃ N : Nat, N = (lns s).length := ⟨_, rfl⟩
      rw [← HC] at HTK ⊢
      rw [← HN] at HTK HRL0 hll hcap hat1 ⊢
      have HA1 : Hid (StrsAt w2 a1 N (lns s)) := hat1
      clear hown hat1 HC HN hlm hok
      have B2 : Below w.heap.size w w2 := hb1.trans (hb2.mono s1)
      have s2 := B2.size
      obtain ⟨W3, hW3⟩ : ∃ W3, w2.alloc (.cells #[.bool false, .int .i64 C] 24) = W3 := ⟨_, rfl⟩
      have HC3 : Hid (W3.heap[w2.heap.size]? = some (.cells #[.bool false, .int .i64 C] 24 (0, 0))) := by rw [← hW3]; exact heap_alloc_new w2 _
      have B23 : Below w2.heap.size w2 W3 := by rw [← hW3]; exact (Below.refl _ _).alloc (Nat.le_refl _) _
      have S3 : Hid (W3.heap.size = w2.heap.size + 1) := by rw [← hW3]; simp [Hid]
      have HBW : Hid (∀ W, Below W3.heap.size W3 W → Below w.heap.size w W) := fun W hb => B2.trans ((B23.trans (hb.mono (by have := S3.out; omega))).mono s2)
      have HST : Hid (∀ W, Below W3.heap.size W3 W → W.cell? ⟨w2.heap.size, 0, none⟩ = some (.bool false) ∧ W.cell? ⟨w2.heap.size, 1, none⟩ = some (.int .i64 C)) := fun W hb => by
        have hq := (hb.block w2.heap.size (by have := S3.out; omega)).trans HC3.out
        exact ⟨by rw [Lib.cell_of_heap hq]; rfl, by rw [Lib.cell_of_heap hq]; rfl⟩
      have HAT3 : Hid (StrsAt W3 a1 N (lns s)) := HA1.out.later B23 (Nat.le_refl _)
      clear hb2 HA1
      go_wp2_with fail
      clear hW3
      refine (at_any a1 N cap1 (lns s) ((c : Int) + 1) _ HAT3.out (by omega) HLM.out (by omega) (by omega)).mono ?_
      rintro e w5 ⟨v5, rfl, hown5, hb5⟩
      rw [HRL0.out] at hown5
      have HO5 : Hid (w5.ownsRow W3.heap.size 44 3 v5 N (rowV (atR ((c : Int) + 1) 1 (lns s)))) := hown5
      have HRL : Hid ((atR ((c : Int) + 1) 1 (lns s)).length = N) := HRL0.out
      obtain ⟨a5, cap5, rfl, hcap5, hrw5, _⟩ := rw_own (w := w5) (rs := atR ((c : Int) + 1) 1 (lns s)) (by rw [HRL.out]; exact hown5)
      rw [HRL.out] at HO5 hcap5 hrw5 ⊢
      have HRW : Hid (RwAt w5 a5 N (atR ((c : Int) + 1) 1 (lns s))) := hrw5
      have s5 := hb5.size
      clear hown5 hrw5
      by_cases hl0 : 0 < len
      · obtain ⟨b, off, rfl, hbb, hcc⟩ := HZ.out.2 hl0
        have bw5 := HBW.out _ hb5
        have g0 := (bw5.cell (p := ⟨b, off + 0, none⟩) hbb).trans (hcc 0 hl0)
        rw [Nat.add_zero] at g0
        have HBS : Hid (bs = bs.getD 0 [] :: bs.drop (0 + 1)) := by
          have := drop_getD bs 0 (by rw [← HZ.out.1]; exact hl0)
          rw [List.drop_zero] at this
          exact this
        obtain ⟨x, hx⟩ : ∃ x, x = bs.getD 0 [] := ⟨_, rfl⟩
        rw [← hx] at g0 HBS
        clear hx hcc
        cases x with
        | nil =>
          rw [show mk [] = (⟨#[]⟩ : ByteArray) from rfl] at g0
          obtain ⟨st0, st1⟩ := HST.out _ hb5
          go_wp2_with fail
          refine (HTK.out _ _ _ _ [] rfl (fun r h => by cases h) (by rw [List.append_nil]; exact HRW.out) (by omega)).mono ?_
          rintro e w8 ⟨rfl, hb8⟩
          have b8 : Below w.heap.size w w8 := (HBW.out _ hb5).trans (hb8.mono (HBW.out _ hb5).size)
          have s8 := b8.size
          clear hb8
          go_wp2_with fail
          refine (alive_any _).mono ?_
          rintro e w9 ⟨rfl, hb9⟩
          rw [World.size_alloc] at hb9
          go_wp2
          go_ret
          exact ⟨rfl, (b8.alloc s8 _).trans (hb9.mono (by omega))⟩
        | cons y t =>
          have hq : ((mk (y :: t)).toList == []) = false := by rw [mk_nil_eq]; simp
          have hsz : (mk (y :: t)).size = t.length + 1 := by rw [mk_size]; rfl
          have hg : ∀ h, (mk (y :: t))[0]'h = y := fun h => by rw [mk_get]; rfl
          have hb32 : ((y.toNat : Int) != 32) = !(y == 32) := by
            unfold bne
            congr 1
            rw [Bool.eq_iff_iff]
            simp only [beq_iff_eq]
            constructor
            · intro h; apply UInt8.toNat_inj.1; have : y.toNat = 32 := by omega
              rw [this]; rfl
            · rintro rfl; rfl
          cases hy2 : (y == 32)
          · rw [hy2, Bool.not_false] at hb32
            have HBN : Hid (rws (atR 0 1 bs) c = []) := by rw [HBS.out]; exact behind_no c y t _ (by simpa using hy2)
            have HBO : Hid (∀ r ∈ atR 0 1 bs, r.1 ≤ 9223372036854775807 ∧ r.2.1.length ≤ 140737488355328) := atR_ok 0 1 bs (by omega) (fun x hx => by have := HSM.out x hx; omega)
            have hb20 : ∀ x ∈ bs, x.length ≤ 1048576 := fun x hx => by have := HSM.out x hx; omega
            have HAB : Hid (∀ W, Below w.heap.size w W → Calls Tryd.prog 11 #[.slice (some ⟨b, off, none⟩) len cap, .int .i64 0] W fun e w' => ∃ v, e = .returned v ∧ w'.ownsRow W.heap.size 44 3 v (atR 0 1 bs).length (rowV (atR 0 1 bs)) ∧ Below W.heap.size W w') := fun W hb => at_any _ len cap bs 0 W (HZ.out.later hb (Nat.le_refl _)) (by have := HLB.out; have := HZ.out.1; omega) hb20 (by decide) (by decide)
            clear hb20 HBS
            go_wp2_with fail
            refine (HAB.out _ bw5).mono ?_
            rintro e w6 ⟨v6, rfl, hown6, hb6⟩
            have hlr : (atR 0 1 bs).length = len := by rw [atR_len, ← HZ.out.1]
            obtain ⟨a6, cap6, rfl, hcap6, hrw6, hg6⟩ := rw_own hown6
            rw [hlr] at hown6 hcap6 hrw6 hg6 ⊢
            obtain ⟨g6, rfl⟩ := hg6 hl0
            have HCE : Hid (∀ j u, (rowV (atR 0 1 bs))[j]? = some u → w6.cell? ((⟨g6, 0, none⟩ : Addr).add j) = some u) := hown6.cells rfl
            have HVL : Hid ((rowV (atR 0 1 bs)).length = len * 3) := by rw [rowV_len, hlr]; exact rfl
            have hlen1 : len ≤ 1000 := by have := HLB.out; have := HZ.out.1; omega
            obtain ⟨i0, hi, hz0, hz1, hz2⟩ := info_parts Tryd.infoRow
            have HO6 : Hid (w6.ownsRow W3.heap.size 44 3 (.slice a5 N cap5) N (rowV (atR ((c : Int) + 1) 1 (lns s)))) := own_later HO5.out hb6
            have s6 := hb6.size
            clear hown6 hrw6 hg6 HAB
            go_wp2_with (first | (at_builtin; refine wpList_append_own _ rfl _ _ 35 rfl W3.heap.size 44 i0 (.agg #[.int .i64 0, .string ⟨#[]⟩, .int .i64 0]) 3 32 Tryd.underlying35 hi hz0 hz1 hz2 rfl (by decide) _ _ _ rfl HO6.out ⟨g6, 0, none⟩ len cap6 (rowV (atR 0 1 bs)) rfl HVL.out HCE.out (rowV_one _) (by unfold maxLen; omega) (by omega) (by omega) ?_; intro v7 w7 hown7 hgrow7 _; have hb7 : Below W3.heap.size W3 w7 := (hb5.trans (hb6.mono s5)).grown hgrow7 (by omega) (own_block HO6.out); have hs7 := hgrow7.size; obtain ⟨st0, st1⟩ := HST.out _ hb7))
            have HN7 : Hid ((atR ((c : Int) + 1) 1 (lns s) ++ atR 0 1 bs).length = N + len) := by rw [List.length_append, HRL.out, hlr]; exact rfl
            obtain ⟨a7, cap7, rfl, hcap7, hrw7, _⟩ := rw_own (w := w7) (rs := atR ((c : Int) + 1) 1 (lns s) ++ atR 0 1 bs) (by rw [HN7.out, rowV_app]; exact hown7)
            rw [HN7.out] at hcap7 hrw7 ⊢
            have HRW7 : Hid (RwAt w7 a7 (N + len) (atR ((c : Int) + 1) 1 (lns s) ++ atR 0 1 bs)) := hrw7
            clear hown7 hgrow7 hrw7 hlr
            refine (HTK.out _ _ _ _ (atR 0 1 bs) HBN.out HBO.out HRW7.out (by omega)).mono ?_
            rintro e w8 ⟨rfl, hb8⟩
            have b8 : Below w.heap.size w w8 := (HBW.out _ hb7).trans (hb8.mono (HBW.out _ hb7).size)
            have s8 := b8.size
            clear hb8
            go_wp2_with fail
            refine (alive_any _).mono ?_
            rintro e w9 ⟨rfl, hb9⟩
            rw [World.size_alloc] at hb9
            go_wp2
            go_ret
            exact ⟨rfl, (b8.alloc s8 _).trans (hb9.mono (by omega))⟩
          · rw [hy2, Bool.not_true] at hb32
            obtain ⟨st0, st1⟩ := HST.out _ hb5
            go_wp2_with fail
            refine (HTK.out _ _ _ _ [] rfl (fun r h => by cases h) (by rw [List.append_nil]; exact HRW.out) (by omega)).mono ?_
            rintro e w8 ⟨rfl, hb8⟩
            have b8 : Below w.heap.size w w8 := (HBW.out _ hb5).trans (hb8.mono (HBW.out _ hb5).size)
            have s8 := b8.size
            clear hb8
            go_wp2_with fail
            refine (alive_any _).mono ?_
            rintro e w9 ⟨rfl, hb9⟩
            rw [World.size_alloc] at hb9
            go_wp2
            go_ret
            exact ⟨rfl, (b8.alloc s8 _).trans (hb9.mono (by omega))⟩
      · obtain ⟨st0, st1⟩ := HST.out _ hb5
        go_wp2_with fail
        refine (HTK.out _ _ _ _ [] rfl (fun r h => by cases h) (by rw [List.append_nil]; exact HRW.out) (by omega)).mono ?_
        rintro e w8 ⟨rfl, hb8⟩
        have b8 : Below w.heap.size w w8 := (HBW.out _ hb5).trans (hb8.mono (HBW.out _ hb5).size)
        have s8 := b8.size
        clear hb8
        go_wp2_with fail
        refine (alive_any _).mono ?_
        rintro e w9 ⟨rfl, hb9⟩
        rw [World.size_alloc] at hb9
        go_wp2
        go_ret
        exact ⟨rfl, (b8.alloc s8 _).trans (hb9.mono (by omega))⟩
    · have B2 : Below w.heap.size w w2 := hb1.trans (hb2.mono s1)
      have s2 := B2.size
      go_wp2_with fail
      refine (alive_any _).mono ?_
      rintro e w3 ⟨rfl, hb3⟩
      rw [World.size_alloc] at hb3
      go_wp2
      go_ret
      exact ⟨rfl, (B2.alloc s2 _).trans (hb3.mono (by omega))⟩
  · go_wp2_with fail
    refine (alive_any _).mono ?_
    rintro e w2 ⟨rfl, hb2⟩
    go_wp2
    go_ret
    exact ⟨rfl, hb1.trans (hb2.mono s1)⟩

end Go.Proofs.YtoamfmockinknaaDoor.Blk
