/- Several texts as one: LayDw. -/
import Derived.Test.YtcplgjclkjcekaaGreatDoorYLayDpS
import Derived.Test.YtcplgjclkjcekaaGreatDoorYLayChA
import Derived.Maps.AppendAt
section
/- LayDeep: the law's walk. -/
namespace Go.Proofs.YtcplgjclkjcekaaGreatDoor.Grp
open Utf Rws Pln Flw
open Go.RowKit Go.Shelf
set_option linter.unusedSimpArgs false
set_option linter.unusedVariables false
set_option maxRecDepth 100000
set_option maxHeartbeats 8000000

theorem ch_sml {n : Nat} (h0 : 0 < n) (h1 : n ≤ 90) (b : Bool) : Sml (chN n b) := by
  have h := ch_sml_all
  rw [List.all_eq_true] at h
  have h2 := h (n - 1) (List.mem_range.2 (by omega))
  rw [List.all_eq_true] at h2
  have h3 := h2 b (by cases b <;> simp)
  rw [show n - 1 + 1 = n by omega, Bool.and_eq_true, List.all_eq_true] at h3
  exact fun _ => ⟨fun m hm => of_decide_eq_true (h3.1 m hm), of_decide_eq_true h3.2⟩
theorem ch_ly {n : Nat} (h0 : 0 < n) (h1 : n ≤ 90) (b : Bool) : lyE ⟨chN n b, 0⟩ = (if 64 < n then 10 else 0) ∧ (lyG ⟨chN n b, 0⟩).anc = (if 64 < n then [] else if b = true then [97, 49] else []) := by
  have h := ch_all
  rw [List.all_eq_true] at h
  have h2 := h (n - 1) (List.mem_range.2 (by omega))
  rw [List.all_eq_true] at h2
  have h3 := h2 b (by cases b <;> simp)
  rw [show n - 1 + 1 = n by omega, Bool.and_eq_true] at h3
  exact ⟨of_decide_eq_true h3.1, of_decide_eq_true h3.2⟩
theorem chN_take {n j : Nat} (h : j < n) (b : Bool) : (chN n b).take (j + 1) = (chN n b).take j ++ [⟨5, [], chK n b j⟩] := by
  have hl : j < (chN n b).length := by rw [ch_len]; exact h
  rw [List.take_succ_eq_append_getElem hl]
  have := ch_at (b := b) h
  rw [List.getD_eq_getElem?_getD, List.getElem?_eq_getElem hl] at this
  simp only [Option.getD_some] at this
  rw [this]
theorem deep_walk (a : Int) (f : Bool) (w : World) (ha : (Lit.int .u8 a).wf = true) (hT : Tb w) : Calls Tryz.prog 6 #[.int .u8 a, .bool f] w fun e w' => e = .returned (.bool true) ∧ Below w.heap.size w w' := by
  obtain ⟨A, rfl, hA⟩ : ∃ A : Nat, a = (A : Int) ∧ A ≤ 255 := by
    have h : 0 ≤ a ∧ a ≤ 255 := by
      simp only [Lit.wf, Bool.and_eq_true] at ha
      exact ⟨of_decide_eq_true ha.1, of_decide_eq_true ha.2⟩
    exact ⟨a.toNat, by omega, by omega⟩
  obtain ⟨n, hn⟩ : ∃ n, n = A % 90 + 1 := ⟨_, rfl⟩
  have h0 : 0 < n := by omega
  have h90 : n ≤ 90 := by omega
  have hm : (A : Int).tmod 90 = ((n - 1 : Nat) : Int) := by
    rw [Int.tmod_eq_emod_of_nonneg (by omega)]
    omega
  have HA : Hid (∀ W, Below w.heap.size w W → Calls Tryz.prog 8 #[] W fun e W' => e = .returned (.bool true) ∧ Hid (Below w.heap.size w W')) := fun W b => (alive_any (hT.later b)).mono (fun e W' q => ⟨q.1, b.trans (q.2.mono b.size)⟩)
  have HTr : Hid (∀ W K ad cap l, l.map Prod.fst = chN n f → n ≤ cap → cap ≤ maxLen → DpS w W K (.slice ad n cap) l → Calls Tryz.prog 9 #[gv ad n cap 0] W fun e W' => ∃ (k : Int) (x y : ByteArray) (ra : Option Addr) (rl rc : Nat), e = .returned (.tuple #[.agg #[.int .i64 k, .string x, .string y, .slice ra rl rc], .int .i64 (lyE ⟨chN n f, 0⟩)]) ∧ Hid (TrV W' (n + 80) (.agg #[.int .i64 k, .string x, .string y, .slice ra rl rc]) (lyG ⟨chN n f, 0⟩)) ∧ Hid (Below w.heap.size w W')) := fun W K ad cap l hl h1 h2 h => by
    have hN := h.nat (by have := congrArg List.length hl; rw [List.length_map, ch_len] at this; exact this.symm)
    rw [hl] at hN
    refine (ttree_any (g := ⟨chN n f, 0⟩) ⟨ad, n, cap, rfl, h1, h2, ⟨(by decide : (-9223372036854775808 : Int) ≤ 0), (by decide : (0 : Int) ≤ 9223372036854775807)⟩, hN⟩ (ch_sml h0 h90 f) (hT.later h.bl)).mono (fun e W' q => ?_)
    obtain ⟨k, x, y, ra, rl, rc, q1, q2, q3⟩ := q
    exact ⟨k, x, y, ra, rl, rc, q1, q2.out.v.more (by show (chN n f).length + 1 ≤ _; rw [ch_len]; omega), h.bl.trans (q3.out.mono h.bl.size)⟩
  have hly := ch_ly h0 h90 f
  rw [hly.1] at HTr
  have HAn : Hid ((lyG ⟨chN n f, 0⟩).anc = (if 64 < n then [] else if f = true then [97, 49] else [])) := hly.2
  have HNo : Hid (64 < n → lyG ⟨chN n f, 0⟩ = tr0) := fun h => lyG_no (by rw [hly.1, if_pos h]; decide)
  have HSa : Hid (∀ W d k x y ra rl rc, TrV W d (.agg #[.int .i64 k, .string x, .string y, .slice ra rl rc]) tr0 → Below w.heap.size w W → Calls Tryz.prog 10 #[.agg #[.int .i64 k, .string x, .string y, .slice ra rl rc], .agg #[.int .i64 0, .string ⟨#[]⟩, .string ⟨#[]⟩, .slice none 0 0]] W fun e W' => e = .returned (.bool true) ∧ Hid (Below w.heap.size w W')) := fun W d k x y ra rl rc h hb => (rsame_is h (trv_none W 0)).mono (fun e W' q => ⟨q.1, hb.trans (q.2.mono hb.size)⟩)
  have HTk : Hid (∀ j, j < n → (chN n f).take (j + 1) = (chN n f).take j ++ [⟨5, [], chK n f j⟩]) := fun j hj => chN_take hj f
  have HTe : Hid ((chN n f).take n = chN n f) := List.take_of_length_le (by rw [ch_len]; exact Nat.le_refl _)
  have HTl : Hid (∀ j, j ≤ n → ((chN n f).take j).length = j) := fun j hj => by rw [List.length_take, ch_len]; omega
  have HCk : Hid (∀ j, j < n → chK n f j = if j + 1 = n then (if f = true then [0] else []) else [((j + 1 : Nat) : Int)]) := fun j _ => rfl
  have hD0 := DpS.new w
  obtain ⟨i0, hi, hz0, hz1, hz2⟩ := info_parts Tryz.infoNode
  generalize lyG ⟨chN n f, 0⟩ = T at *
  generalize chN n f = CH at *
  generalize chK n f = CK at *
  clear ha hT hly hn
  go_enter Tryz.func6, Tryz.ntmps6
  have hn1 : ((n - 1 : Nat) : Int) + 1 = (n : Int) := by omega
  go_upto_region 3 with fail
  try rw [hn1]
  clear hm
  have HD0 : Hid (DpS w (w.alloc (.cells #[.slice none 0 0, .int .i64 0] 24)) w.heap.size (.slice none 0 0) []) := hD0
  clear hD0
  generalize w.alloc (.cells #[.slice none 0 0, .int .i64 0] 24) = W0 at HD0 ⊢
  obtain ⟨Kg, hKg⟩ : ∃ Kg, Kg = w.heap.size := ⟨_, rfl⟩
  rw [← hKg] at HD0 ⊢
  clear hKg hn1
  go_wp2_with fail
  go_loopw [16] (fun i wr => ∃ (j : Nat) (nv : Value) (l : List (Nd × Value)), j ≤ n ∧ i = .int .i64 (j : Int) ∧ Hid (l.map Prod.fst = CH.take j) ∧ Hid (DpS w wr Kg nv l)) (fun i _ => n - (intOf i).toNat)
  case atStart => exact ⟨0, _, [], Nat.zero_le _, rfl, rfl, HD0⟩
  case round =>
    obtain ⟨j, nv, l, hj, rfl, HL, HS⟩ := hrel
    clear HD0
    have hll : Hid (l.length = j) := by show _ = _; have h1 := congrArg List.length HL.out; rw [List.length_map, HTl.out j hj] at h1; exact h1
    by_cases hlt : j < n
    · have hk3 : Kg < wr.heap.size := HS.out.g.lt
      have hCK := HCk.out j hlt
      have HL2 := HTk.out j hlt
      have hi64 : i64 (((j : Int) + 1)) := ⟨by omega, by omega⟩
      go_upto_region 7 with fail
      have bA := below_alloc wr (.cells #[.int .i64 ((j : Int) + 1)] 3)
      have s1 : (wr.alloc (.cells #[.int .i64 ((j : Int) + 1)] 3)).heap.size = wr.heap.size + 1 := World.size_alloc _ _
      have nA := Bx.new wr #[.int .i64 ((j : Int) + 1)] 3
      have bB := below_alloc (wr.alloc (.cells #[.int .i64 ((j : Int) + 1)] 3)) (.cells #[.int .i64 5, .string ⟨#[]⟩, .slice (some ⟨wr.heap.size, 0, none⟩) 1 1] 52)
      have nB := Bx.new (wr.alloc (.cells #[.int .i64 ((j : Int) + 1)] 3)) #[.int .i64 5, .string ⟨#[]⟩, .slice (some ⟨wr.heap.size, 0, none⟩) 1 1] 52
      rw [s1] at nB
      have s2 : ((wr.alloc (.cells #[.int .i64 ((j : Int) + 1)] 3)).alloc (.cells #[.int .i64 5, .string ⟨#[]⟩, .slice (some ⟨wr.heap.size, 0, none⟩) 1 1] 52)).heap.size = wr.heap.size + 1 + 1 := by rw [World.size_alloc, s1]
      have HS1 : Hid (DpS w ((wr.alloc (.cells #[.int .i64 ((j : Int) + 1)] 3)).alloc (.cells #[.int .i64 5, .string ⟨#[]⟩, .slice (some ⟨wr.heap.size, 0, none⟩) 1 1] 52)) Kg nv l) := (HS.out.later bA).later bB
      have NA : Hid (Bx ((wr.alloc (.cells #[.int .i64 ((j : Int) + 1)] 3)).alloc (.cells #[.int .i64 5, .string ⟨#[]⟩, .slice (some ⟨wr.heap.size, 0, none⟩) 1 1] 52)) wr.heap.size #[.int .i64 ((j : Int) + 1)] 3) := nA.later bB
      generalize (wr.alloc (.cells #[.int .i64 ((j : Int) + 1)] 3)).alloc (.cells #[.int .i64 5, .string ⟨#[]⟩, .slice (some ⟨wr.heap.size, 0, none⟩) 1 1] 52) = W2 at HS1 NA nB s2 ⊢
      have HNB : Hid (Bx W2 (wr.heap.size + 1) #[.int .i64 5, .string ⟨#[]⟩, .slice (some ⟨wr.heap.size, 0, none⟩) 1 1] 52) := nB
      have HS0b : Hid (∀ {g : Nat}, nv.ownBlock = some g → g < wr.heap.size) := fun {g} hg => (own_block HS.out.ow hg).2
      clear bA s1 nA bB nB HS
      obtain ⟨na, nc, rfl, hnc1, hnc2⟩ := own_shapeN HS1.out.ow
      have hBX : wr.heap.size ≠ wr.heap.size + 1 := by omega
      have hXS : wr.heap.size + 1 < W2.heap.size := by omega
      have hKX : Kg < wr.heap.size + 1 := by omega
      have hKB : Kg < wr.heap.size := by omega
      have hwX : w.heap.size ≤ wr.heap.size + 1 := by have := HS1.out.hk; omega
      have hobX : some (wr.heap.size + 1) ≠ (Value.slice na l.length nc).ownBlock := fun e => by
        have e1 := HS0b.out e.symm
        omega
      generalize wr.heap.size + 1 = X at HNB hBX hXS hKX hwX hobX ⊢
      generalize wr.heap.size = Bq at NA HNB hBX hKB ⊢
      clear s2 hk3
      by_cases hje : j + 1 = n
      · have he0 : (j : Int) = (n : Int) - 1 := by omega
        have he : ((j : Int) == (n : Int) - 1) = true := by simpa using he0
        rw [if_pos hje] at hCK
        obtain ⟨d0, d1, d2⟩ := HNB.out.c3
        have z2 := HNB.out.fz 2
        clear he0
        cases f
        · rw [if_neg (by decide)] at hCK
          go_upto_region 11 with fail
          obtain ⟨Wx, hWx⟩ : ∃ Wx, Wx = W2.setCell ⟨X, 2, none⟩ (.slice none 0 0) := ⟨_, rfl⟩
          obtain ⟨kv, hkv0⟩ : ∃ kv, kv = Value.slice none 0 0 := ⟨_, rfl⟩
          obtain ⟨ks, hks⟩ : ∃ ks : List Int, ks = [] := ⟨_, rfl⟩
          have HKI : Hid (KI Wx (⟨5, [], ks⟩, kv)) := by rw [hks, hkv0]; exact .inr rfl
          have HP : Hid (DpS w Wx Kg (.slice na l.length nc) l) := by rw [hWx]; exact HS1.out.other HNB.out (by omega) hwX hobX
          have HNX : Hid (Bx Wx X #[.int .i64 5, .string ⟨#[]⟩, kv] 52) := by rw [hWx, hkv0]; exact HNB.out.set 2 _
          have hkv : kv.oneCell' = true := by rw [hkv0]; rfl
          have HKS : Hid (CK j = ks) := by rw [hks]; exact hCK
          rw [← hWx]
          have hXW : X < Wx.heap.size := HNX.out.lt
          clear hWx hkv0 hks hCK HS1 NA HNB hXS d0 d1 d2 z2
          have HO : Hid (Wx.ownsRow (Kg + 1) 52 3 (.slice na l.length nc) l.length (ncs l)) := HP.out.ow
          have g0 : Wx.cell? ⟨Kg, 0, none⟩ = some (.slice na l.length nc) := HP.out.g.cell 0
          obtain ⟨d0, d1, d2⟩ := HNX.out.c3
          have hl4 : l.length ≤ 90 := by have := hll.out; omega
          have hKW : Kg < Wx.heap.size := HP.out.g.lt
          go_wp2_with (at_builtin; refine wpList_append_own_at _ rfl _ _ 22 rfl (Kg + 1) 52 i0 (.agg #[.int .i64 0, .string ⟨#[]⟩, .slice none 0 0]) 3 48 Tryz.underNodes hi hz0 hz1 hz2 rfl (by decide) _ _ _ rfl (HO.out.alloc _) ⟨Wx.heap.size, 0, none⟩ 1 1 [.int .i64 5, .string ⟨#[]⟩, kv] rfl rfl (cell_threeL Wx _ _ _ _) (fun u hu => by simp only [List.mem_cons, List.not_mem_nil, or_false] at hu; rcases hu with rfl | rfl | rfl <;> first | rfl | exact hkv) (by unfold maxLen; omega) (by omega) (by rw [World.size_alloc]; omega) ?_; intro ov W8 hown hgr hnil hat; have HY := HP.out.step (p := (⟨5, [], ks⟩, kv)) (below_alloc _ _) HKI.out hown hgr; have hb8 : Bx W8 Kg #[.slice na l.length nc, .int .i64 0] 24 := (hgr.block Kg (by rw [World.size_alloc]; omega) (fun e => by have := (own_block HP.out.ow e.symm).1; omega)).trans (HP.out.g.later (below_alloc _ _)); have e8 : W8.cell? ⟨Kg, 0, none⟩ = some (.slice na l.length nc) := hb8.c2.1; have z8 := hb8.fz 0; obtain ⟨va, vc, rfl, _, _⟩ := own_shapeN hown)
          have HY2 : Hid (DpS w (W8.setCell ⟨Kg, 0, none⟩ (.slice va (l.length + 1) vc)) Kg (.slice va (l.length + 1) vc) (l ++ [(⟨5, [], ks⟩, kv)])) := HY
          have HL3 : Hid ((l ++ [((⟨5, [], ks⟩ : Nd), kv)]).map Prod.fst = CH.take (j + 1)) := by
            show _ = _
            rw [List.map_append, HL.out, HL2, HKS.out]
            rfl
          generalize W8.setCell ⟨Kg, 0, none⟩ (.slice va (l.length + 1) vc) = W9 at HY2 ⊢
          clear HY hown hgr hnil hat hb8 e8 z8 HO HP HKI HNX d0 d1 d2 g0
          go_roundw
          case rel => exact ⟨j + 1, _, _, by omega, by go_num, HL3, HY2⟩
          case measure => (simp [intOf] <;> omega)
        · rw [if_pos rfl] at hCK
          go_upto_region 10 with fail
          have HS3 : Hid (DpS w (W2.setCell ⟨X, 2, none⟩ (.slice none 0 0)) Kg (.slice na l.length nc) l) := HS1.out.other HNB.out (by omega) hwX hobX
          have HN3 : Hid (Bx (W2.setCell ⟨X, 2, none⟩ (.slice none 0 0)) X #[.int .i64 5, .string ⟨#[]⟩, .slice none 0 0] 52) := HNB.out.set 2 _
          generalize W2.setCell ⟨X, 2, none⟩ (.slice none 0 0) = W3 at HS3 HN3 ⊢
          clear d0 d1 d2 z2 HS1 HNB NA hXS
          have hX3 : X < W3.heap.size := HN3.out.lt
          obtain ⟨d0, d1, d2⟩ := HN3.out.c3
          have z2 := HN3.out.fz 2
          go_upto_region 11 with fail
          obtain ⟨B4, hB4⟩ : ∃ B4, B4 = W3.heap.size := ⟨_, rfl⟩
          rw [← hB4] at hX3 ⊢
          have HSa4 : Hid (DpS w (W3.setCell ⟨X, 2, none⟩ (.slice (some ⟨B4, 0, none⟩) 1 1)) Kg (.slice na l.length nc) l) := HS3.out.other HN3.out (by omega) hwX hobX
          have HNa4 : Hid (Bx (W3.setCell ⟨X, 2, none⟩ (.slice (some ⟨B4, 0, none⟩) 1 1)) X #[.int .i64 5, .string ⟨#[]⟩, .slice (some ⟨B4, 0, none⟩) 1 1] 52) := HN3.out.set 2 _
          have hsB : (W3.setCell ⟨X, 2, none⟩ (.slice (some ⟨B4, 0, none⟩) 1 1)).heap.size = B4 := by rw [World.size_setCell]; exact hB4.symm
          generalize W3.setCell ⟨X, 2, none⟩ (.slice (some ⟨B4, 0, none⟩) 1 1) = W4 at HSa4 HNa4 hsB ⊢
          have bC := below_alloc W4 (.cells #[.int .i64 0] 3)
          have hI4 := Bx.new W4 #[.int .i64 0] 3
          rw [hsB] at hI4
          clear HS3 HN3 d0 d1 d2 z2 hB4 hsB
          obtain ⟨Wx, hWx⟩ : ∃ Wx, Wx = W4.alloc (.cells #[.int .i64 0] 3) := ⟨_, rfl⟩
          obtain ⟨kv, hkv0⟩ : ∃ kv, kv = Value.slice (some ⟨B4, 0, none⟩) 1 1 := ⟨_, rfl⟩
          obtain ⟨ks, hks⟩ : ∃ ks : List Int, ks = [0] := ⟨_, rfl⟩
          have HKI : Hid (KI Wx (⟨5, [], ks⟩, kv)) := by rw [hks, hkv0, hWx]; exact .inl ⟨B4, 0, rfl, ⟨by decide, by decide⟩, hI4⟩
          have HP : Hid (DpS w Wx Kg (.slice na l.length nc) l) := by rw [hWx]; exact HSa4.out.later bC
          have HNX : Hid (Bx Wx X #[.int .i64 5, .string ⟨#[]⟩, kv] 52) := by rw [hWx, hkv0]; exact HNa4.out.later bC
          have hkv : kv.oneCell' = true := by rw [hkv0]; rfl
          have HKS : Hid (CK j = ks) := by rw [hks]; exact hCK
          rw [← hWx]
          have hXW : X < Wx.heap.size := HNX.out.lt
          clear hWx hkv0 hks hCK HSa4 HNa4 bC hI4 hX3
          have HO : Hid (Wx.ownsRow (Kg + 1) 52 3 (.slice na l.length nc) l.length (ncs l)) := HP.out.ow
          have g0 : Wx.cell? ⟨Kg, 0, none⟩ = some (.slice na l.length nc) := HP.out.g.cell 0
          obtain ⟨d0, d1, d2⟩ := HNX.out.c3
          have hl4 : l.length ≤ 90 := by have := hll.out; omega
          have hKW : Kg < Wx.heap.size := HP.out.g.lt
          go_wp2_with (at_builtin; refine wpList_append_own_at _ rfl _ _ 22 rfl (Kg + 1) 52 i0 (.agg #[.int .i64 0, .string ⟨#[]⟩, .slice none 0 0]) 3 48 Tryz.underNodes hi hz0 hz1 hz2 rfl (by decide) _ _ _ rfl (HO.out.alloc _) ⟨Wx.heap.size, 0, none⟩ 1 1 [.int .i64 5, .string ⟨#[]⟩, kv] rfl rfl (cell_threeL Wx _ _ _ _) (fun u hu => by simp only [List.mem_cons, List.not_mem_nil, or_false] at hu; rcases hu with rfl | rfl | rfl <;> first | rfl | exact hkv) (by unfold maxLen; omega) (by omega) (by rw [World.size_alloc]; omega) ?_; intro ov W8 hown hgr hnil hat; have HY := HP.out.step (p := (⟨5, [], ks⟩, kv)) (below_alloc _ _) HKI.out hown hgr; have hb8 : Bx W8 Kg #[.slice na l.length nc, .int .i64 0] 24 := (hgr.block Kg (by rw [World.size_alloc]; omega) (fun e => by have := (own_block HP.out.ow e.symm).1; omega)).trans (HP.out.g.later (below_alloc _ _)); have e8 : W8.cell? ⟨Kg, 0, none⟩ = some (.slice na l.length nc) := hb8.c2.1; have z8 := hb8.fz 0; obtain ⟨va, vc, rfl, _, _⟩ := own_shapeN hown)
          have HY2 : Hid (DpS w (W8.setCell ⟨Kg, 0, none⟩ (.slice va (l.length + 1) vc)) Kg (.slice va (l.length + 1) vc) (l ++ [(⟨5, [], ks⟩, kv)])) := HY
          have HL3 : Hid ((l ++ [((⟨5, [], ks⟩ : Nd), kv)]).map Prod.fst = CH.take (j + 1)) := by
            show _ = _
            rw [List.map_append, HL.out, HL2, HKS.out]
            rfl
          generalize W8.setCell ⟨Kg, 0, none⟩ (.slice va (l.length + 1) vc) = W9 at HY2 ⊢
          clear HY hown hgr hnil hat hb8 e8 z8 HO HP HKI HNX d0 d1 d2 g0
          go_roundw
          case rel => exact ⟨j + 1, _, _, by omega, by go_num, HL3, HY2⟩
          case measure => (simp [intOf] <;> omega)
      · have he : ((j : Int) == (n : Int) - 1) = false := by
          have : (j : Int) ≠ (n : Int) - 1 := by omega
          simpa using this
        rw [if_neg hje] at hCK
        obtain ⟨Wx, hWx⟩ : ∃ Wx, Wx = W2 := ⟨_, rfl⟩
        obtain ⟨kv, hkv0⟩ : ∃ kv, kv = Value.slice (some ⟨Bq, 0, none⟩) 1 1 := ⟨_, rfl⟩
        obtain ⟨ks, hks⟩ : ∃ ks, ks = [((j : Int) + 1)] := ⟨_, rfl⟩
        have HKI : Hid (KI Wx (⟨5, [], ks⟩, kv)) := by rw [hks, hkv0, hWx]; exact .inl ⟨Bq, (j : Int) + 1, rfl, hi64, NA.out⟩
        have HP : Hid (DpS w Wx Kg (.slice na l.length nc) l) := by rw [hWx]; exact HS1.out
        have HNX : Hid (Bx Wx X #[.int .i64 5, .string ⟨#[]⟩, kv] 52) := by rw [hWx, hkv0]; exact HNB.out
        have hkv : kv.oneCell' = true := by rw [hkv0]; rfl
        have HKS : Hid (CK j = ks) := by rw [hks]; exact hCK
        go_upto_region 11 with fail
        rw [← hWx]
        have hXW : X < Wx.heap.size := HNX.out.lt
        clear hWx hkv0 hks hCK HS1 NA HNB hXS
        have HO : Hid (Wx.ownsRow (Kg + 1) 52 3 (.slice na l.length nc) l.length (ncs l)) := HP.out.ow
        have g0 : Wx.cell? ⟨Kg, 0, none⟩ = some (.slice na l.length nc) := HP.out.g.cell 0
        obtain ⟨d0, d1, d2⟩ := HNX.out.c3
        have hl4 : l.length ≤ 90 := by have := hll.out; omega
        have hKW : Kg < Wx.heap.size := HP.out.g.lt
        go_wp2_with (at_builtin; refine wpList_append_own_at _ rfl _ _ 22 rfl (Kg + 1) 52 i0 (.agg #[.int .i64 0, .string ⟨#[]⟩, .slice none 0 0]) 3 48 Tryz.underNodes hi hz0 hz1 hz2 rfl (by decide) _ _ _ rfl (HO.out.alloc _) ⟨Wx.heap.size, 0, none⟩ 1 1 [.int .i64 5, .string ⟨#[]⟩, kv] rfl rfl (cell_threeL Wx _ _ _ _) (fun u hu => by simp only [List.mem_cons, List.not_mem_nil, or_false] at hu; rcases hu with rfl | rfl | rfl <;> first | rfl | exact hkv) (by unfold maxLen; omega) (by omega) (by rw [World.size_alloc]; omega) ?_; intro ov W8 hown hgr hnil hat; have HY := HP.out.step (p := (⟨5, [], ks⟩, kv)) (below_alloc _ _) HKI.out hown hgr; have hb8 : Bx W8 Kg #[.slice na l.length nc, .int .i64 0] 24 := (hgr.block Kg (by rw [World.size_alloc]; omega) (fun e => by have := (own_block HP.out.ow e.symm).1; omega)).trans (HP.out.g.later (below_alloc _ _)); have e8 : W8.cell? ⟨Kg, 0, none⟩ = some (.slice na l.length nc) := hb8.c2.1; have z8 := hb8.fz 0; obtain ⟨va, vc, rfl, _, _⟩ := own_shapeN hown)
        have HY2 : Hid (DpS w (W8.setCell ⟨Kg, 0, none⟩ (.slice va (l.length + 1) vc)) Kg (.slice va (l.length + 1) vc) (l ++ [(⟨5, [], ks⟩, kv)])) := HY
        have HL3 : Hid ((l ++ [((⟨5, [], ks⟩ : Nd), kv)]).map Prod.fst = CH.take (j + 1)) := by
          show _ = _
          rw [List.map_append, HL.out, HL2, HKS.out]
          rfl
        generalize W8.setCell ⟨Kg, 0, none⟩ (.slice va (l.length + 1) vc) = W9 at HY2 ⊢
        clear HY hown hgr hnil hat hb8 e8 z8 HO HP HKI HNX d0 d1 d2 g0
        go_roundw
        case rel => exact ⟨j + 1, _, _, by omega, by go_num, HL3, HY2⟩
        case measure => (simp [intOf] <;> omega)
    · have hje : j = n := by omega
      have HLn : Hid (l.map Prod.fst = CH) := by
        have h1 := HL.out
        rw [hje, HTe.out] at h1
        exact h1
      obtain ⟨na, nc, rfl, hnc1, hnc2⟩ := own_shapeN HS.out.ow
      have hln : l.length = n := by have := hll.out; omega
      rw [hln] at hnc1
      have HS2 : Hid (DpS w wr Kg (.slice na n nc) l) := by have h := HS.out; rw [hln] at h; exact h
      have HT := HTr.out wr Kg na nc l HLn.out hnc1 hnc2 HS2.out
      obtain ⟨c0, c1⟩ := HS2.out.g.c2
      clear HL HLn hje HS hll hln HTk HTe HTl HCk HTr
      go_upto_region 14 with (go_at_call 9; refine HT.mono ?_; rintro e w2 ⟨k, x, y, ra, rl, rc, rfl, T2, B2⟩)
      have T3 : Hid (TgS w (w2.alloc (.cells #[.int .i64 k, .string x, .string y, .slice ra rl rc] 29)) w2.heap.size k x y ra rl rc (n + 80) T) := TgS.new B2.out T2.out
      generalize w2.alloc (.cells #[.int .i64 k, .string x, .string y, .slice ra rl rc] 29) = w3 at T3 ⊢
      generalize w2.heap.size = K3 at T3 ⊢
      clear T2 B2 HS2 c0 c1 HT
      obtain ⟨e0, e1, e2, e3⟩ := T3.out.b.c4
      by_cases h64 : 64 < n
      · have hT0 := HNo.out h64
        rw [hT0] at T3
        rw [if_pos h64]
        have h64i : (64 : Int) < (n : Int) := by omega
        clear hT0 HNo HAn
        go_wp2_with (first | (go_at_call 10; refine (HSa.out _ _ _ _ _ _ _ _ T3.out.t T3.out.bl).mono ?_; rintro e w4 ⟨rfl, B4⟩) | (go_at_call 8; refine (HA.out _ B4.out).mono ?_; rintro e w5 ⟨rfl, H5⟩))
        go_ret
        exact ⟨rfl, H5.out⟩
      · have hA2 := HAn.out
        rw [if_neg h64] at hA2
        rw [if_neg h64]
        have h64i : ¬ (64 : Int) < (n : Int) := by omega
        have hy : y = mk T.anc := by
          obtain ⟨ad', l', c', e', _⟩ := T3.out.t
          simp only [Value.agg.injEq, Array.mk.injEq, List.cons.injEq, Value.string.injEq, and_true] at e'
          exact e'.2.2.1
        rw [hy, hA2] at e2
        have HB3 : Hid (Below w.heap.size w w3) := T3.out.bl
        clear HNo HAn hA2 hy T3 HSa
        cases f
        · rw [if_neg (by decide)] at e2
          have hs : ((mk []).toList == [97, 49]) = false := by rw [ByteArray.toList_eq, mk_data]; rfl
          go_wp2_with (go_at_call 8; refine (HA.out _ HB3.out).mono ?_; rintro e w5 ⟨rfl, H5⟩)
          go_ret
          exact ⟨rfl, H5.out⟩
        · rw [if_pos rfl] at e2
          have hs : ((mk [97, 49]).toList == [97, 49]) = true := by rw [ByteArray.toList_eq, mk_data]; rfl
          go_wp2_with (go_at_call 8; refine (HA.out _ HB3.out).mono ?_; rintro e w5 ⟨rfl, H5⟩)
          go_ret
          exact ⟨rfl, H5.out⟩
end Go.Proofs.YtcplgjclkjcekaaGreatDoor.Grp
end
