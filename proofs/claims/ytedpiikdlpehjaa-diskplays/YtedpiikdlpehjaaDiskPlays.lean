/- The walk of DiskPlays: a disk answers every call as the document's disk does. -/
import Derived.Test.YtedpiikdlpehjaaDiskPair
import Derived.Test.YtedpiikdlpehjaaDiskLong
import Derived.Test.YtedpiikdlpehjaaDiskTexts
import Derived.Test.YtedpiikdlpehjaaDiskHeld
namespace Go.Proofs.Ytedpiikdlpehjaa.Dsk
open Go Go.RowKit Go.Maps
set_option linter.unusedSimpArgs false
set_option linter.unusedVariables false

theorem cut_take {w : World} {a : Option Addr} {len cap : Nat} {rs : List Raw} (h : ActsAt w a len cap rs) : ActsAt w a (cutN len) cap (rs.take 150) := by
  have hA := h.cut (cutN len) (by unfold cutN; omega)
  have ht : rs.take (cutN len) = rs.take 150 := by
    unfold cutN
    by_cases q : len ≤ 150
    · rw [Nat.min_eq_left q, h.ln, List.take_length, List.take_of_length_le (by rw [← h.ln]; exact q)]
    · rw [Nat.min_eq_right (by omega)]
  rwa [ht] at hA
theorem Texts.later {w w' : World} {B : Nat} {v : Value} {l : List Nm} (h : Texts w B v l) (hb : Below w.heap.size w w') : Texts w' B v l := by
  refine h.at_ fun b hv => ?_
  rcases h.2 with ⟨q, _⟩ | ⟨g, cap, cur, q, h0, hr, _⟩
  · rw [q] at hv; cases hv
  · rw [q] at hv
    cases hv
    exact hb.block g (Array.getElem?_eq_some_iff.1 hr).1
theorem wp_thenR {P : Program} {C : Code} {Q : Exit → Go.Act → World → Prop} {F : Value → Value → Go.Act} {I : World → Prop} {a : Go.Act} {w : World} (h1 : C.wp P (fun e a' w' => e = .normal ∧ I w' ∧ ∃ v6 v7, a' = F v6 v7) a w) (h2 : ∀ w' v6 v7, I w' → Q .normal (F v6 v7) w') : C.wp P Q a w :=
  Code.wp_mono (fun e a w h => by obtain ⟨rfl, h, v6, v7, rfl⟩ := h; exact h2 w v6 v7 h) h1
theorem box_cells {w : World} {bx : Nat} {r : Raw} (h : Row w bx 40 r.cells) : w.cell? ⟨bx, 0, none⟩ = some (.int .u8 r.act.kind) ∧ w.cell? ⟨bx, 1, none⟩ = some (.string (str r.act.nA)) ∧ w.cell? ⟨bx, 2, none⟩ = some (.string (str r.act.nB)) ∧ w.cell? ⟨bx, 3, none⟩ = some (.slice r.da r.dl r.dc) ∧ w.cell? ⟨bx, 4, none⟩ = some (.int .i64 r.act.num) ∧ w.cell? ⟨bx, 5, none⟩ = some (.slice r.ka r.kl r.kc) :=
  ⟨h.cell 0, h.cell 1, h.cell 2, h.cell 3, h.cell 4, h.cell 5⟩
theorem Pair.none {Y : Nat → Prop} {w0 w : World} {d rb : Nat} {a b : M} (h : Pair Y w0 w d a rb b) : Pair (fun _ => False) w0 w d a rb b := by
  obtain ⟨F, X, fv, nv, kv, av, h1, h2, h3, h4, h5, h6, h7, h8, h9⟩ := h
  exact ⟨F, X, fv, nv, kv, av, h1, h2, h3, h4, h5, h6, h7, h8, fun _ q => q.elim⟩
theorem wf_act {m : M} (h : Wf m) (x : Act) (hn : x.num ≤ 9223372036854775807) : Wf (m.act x).1 := by
  unfold M.act
  split
  · exact wf_create h _
  · exact wf_append h _ _
  · exact wf_sync h _
  · exact wf_rename h _ _
  · exact wf_remove h _
  · exact wf_syncDir h
  · exact wf_arm h _ hn
  · exact wf_start h _ _
theorem Pair.wf_act {Y : Nat → Prop} {w0 w w1 : World} {d rb : Nat} {a b : M} (h : Pair Y w0 w d a rb b) (r : Raw) (hR : RawOk w1 r) : Wf (a.act r.act).1 := Dsk.wf_act h.wf _ hR.num.2
set_option maxRecDepth 100000 in
set_option maxHeartbeats 4000000 in
theorem diskPlays_any (z : Int) (a : Option Addr) (len cap : Nat) (rs : List Raw) (w : World) (hz : (Lit.int .i64 z).wf = true) (hA : ActsAt w a len cap rs) :
    Calls Try.prog 3 #[.int .i64 z, .slice a len cap] w fun e w' => e = .returned (.bool true) ∧ Below w.heap.size w w' := by
  have hlong := long_ok hA
  have hsh := fun w => short_ok a len cap w hA.lc hA.cm
  have HA : Hid (ActsAt w a (cutN len) cap (rs.take 150)) := cut_take hA
  have hn150 : cutN len ≤ 150 := Nat.min_le_right _ _
  clear hA hz
  go_enter Try.func3, Try.ntmps3
  go_wp2_with fail
  refine hlong.mono ?_
  rintro e w1 ⟨rfl, hB1⟩
  have HB1 : Hid (Below w.heap.size w w1) := hB1
  clear hlong hB1
  by_cases hL : isLong rs = true
  · rw [hL]
    go_wp2_with fail
    refine (alive_any _).mono ?_
    rintro e w2 ⟨rfl, hB2⟩
    have HBf : Hid (Below w.heap.size w w2) := HB1.out.trans (hB2.mono HB1.out.size)
    clear hB2
    go_wp2
    go_ret
    exact ⟨rfl, HBf.out⟩
  · have hL0 : isLong rs = false := by simpa using hL
    have HDL : Hid (∀ i, i < (rs.take 150).length → ((rs.take 150).getD i raw0).dl ≤ 524288) := fun i hi => long_not hL0 i hi
    rw [hL0]
    clear hL hL0
    generalize rs.take 150 = ts at *
    generalize cutN len = n at *
    have HAW : Hid (ActsAt w1 a n cap ts) := HA.out.later HB1.out
    by_cases hbad : z < 0 ∨ 1048576 < z
    · have h0 := fun w => new_arg z w hbad
      have h1 := fun w => rnew_bad z w hbad
      go_wp2_with fail
      refine (h0 _).mono ?_
      rintro e _ ⟨rfl, rfl⟩
      go_wp2_with fail
      refine (h1 _).mono ?_
      rintro e w2 ⟨rfl, hB2⟩
      have HB2 : Hid (Below w1.heap.size w1 w2) := hB2
      clear hB2
      simp only [rZ]
      go_wp2_with fail
      refine (alive_any _).mono ?_
      rintro e w3 ⟨rfl, hB3⟩
      have HBf : Hid (Below w.heap.size w w3) := HB1.out.trans ((HB2.out.trans ((((Below.refl _ w2).alloc (Nat.le_refl _) _).trans (hB3.mono (Below.alloc (Below.refl _ w2) (Nat.le_refl _) _).size)).mono HB2.out.size)).mono HB1.out.size)
      clear hB3
      go_wp2
      go_ret
      exact ⟨rfl, HBf.out⟩
    · obtain ⟨ro, rfl⟩ : ∃ r : Nat, z = r := ⟨z.toNat, by omega⟩
      have hro : ro ≤ 1048576 := by omega
      have h0 := fun w => mine_new ro w hro
      have h1 := fun w => rnew_ok ro w hro
      clear hbad
      go_wp2_with fail
      refine (h0 _).mono ?_
      rintro e w2 ⟨d, rfl, MA⟩
      have HMA : Hid (Mine w1 w2 d (M.new ro)) := MA
      clear h0 MA
      go_wp2_with fail
      refine (h1 _).mono ?_
      rintro e w3 ⟨rfl, hB3⟩
      have HB3 : Hid (Below w2.heap.size w2 w3) := hB3
      clear hB3
      simp only [rD]
      obtain ⟨V0, HV0⟩ : ∃ V, Hid (V = w3.alloc (.cells #[.int .i64 ro, .slice none 0 0, .slice none 0 0, .slice none 0 0, .slice none 0 0, .int .i64 (-1), .bool false, .int .i64 0] 33)) := ⟨_, rfl⟩
      obtain ⟨rb, HRBX⟩ : ∃ x, Hid (x = w3.heap.size) := ⟨_, rfl⟩
      have HBV0 : Hid (Below w2.heap.size w2 V0) := by rw [HV0.out]; exact HB3.out.alloc HB3.out.size _
      have HP : Hid (Pair (fun _ => False) w1 V0 d (M.new ro) rb (M.new ro)) := by
        refine HMA.out.pair HBV0.out ro ?_ ?_
        · rw [HV0.out, HRBX.out]
          exact Row.mk w3 [.int .i64 ro, .slice none 0 0, .slice none 0 0, .slice none 0 0, .slice none 0 0, .int .i64 (-1), .bool false, .int .i64 0] _
        · rw [HRBX.out]; exact HB3.out.size
      clear h1
      go_wp2_with fail
      rw [← HV0.out, ← HRBX.out]
      refine (hsh _).mono ?_
      rintro e _ ⟨rfl, rfl⟩
      go_wp2_with fail
      go_loopw [50] (fun i wr => ∃ j : Nat, ∃ m : M, j ≤ n ∧ i = .int .i64 j ∧ Pair (fun _ => False) w1 wr d m rb m ∧ m.calls ≤ j) (fun i _ => n - (intOf i).toNat)
      case atStart => exact ⟨0, _, Nat.zero_le _, rfl, HP.out, Nat.le_refl _⟩
      case round =>
        obtain ⟨j, m, hj, rfl, hP, hcm⟩ := hrel
        have HP1 : Hid (Pair (fun _ => False) w1 wr d m rb m) := hP
        have HCM : Hid (m.calls ≤ j) := hcm
        have HLN : Hid (n = ts.length) := HAW.out.ln
        clear hP hcm HP
        by_cases hlt : j < n
        · obtain ⟨b, off, rfl, hbl, hc⟩ := HAW.out.mem (by omega)
          have HR : Hid (RawOk w1 (ts.getD j raw0)) := HAW.out.ok j hlt
          have HDR : Hid ((ts.getD j raw0).dl ≤ 524288) := HDL.out j (by rw [← HLN.out]; exact hlt)
          have hcc := fun i hi => (HP1.out.bel.cell (p := ⟨b, off + j * 6 + i, none⟩) hbl).trans (hc j hlt i hi)
          clear hc
          obtain ⟨r, hr⟩ : ∃ r, r = ts.getD j raw0 := ⟨_, rfl⟩
          rw [← hr] at HR HDR hcc
          have c0 : wr.cell? ⟨b, off + j * 6, none⟩ = some (.int .u8 r.act.kind) := hcc 0 (by decide)
          have c1 : wr.cell? ⟨b, off + j * 6 + 1, none⟩ = some (.string (str r.act.nA)) := hcc 1 (by decide)
          have c2 : wr.cell? ⟨b, off + j * 6 + 2, none⟩ = some (.string (str r.act.nB)) := hcc 2 (by decide)
          have c3 : wr.cell? ⟨b, off + j * 6 + 3, none⟩ = some (.slice r.da r.dl r.dc) := hcc 3 (by decide)
          have c4 : wr.cell? ⟨b, off + j * 6 + 4, none⟩ = some (.int .i64 r.act.num) := hcc 4 (by decide)
          have c5 : wr.cell? ⟨b, off + j * 6 + 5, none⟩ = some (.slice r.ka r.kl r.kc) := hcc 5 (by decide)
          clear hcc hr
          obtain ⟨V, HV⟩ : ∃ V, Hid (V = wr.alloc (.cells #[.int .u8 r.act.kind, .string (str r.act.nA), .string (str r.act.nB), .slice r.da r.dl r.dc, .int .i64 r.act.num, .slice r.ka r.kl r.kc] 40)) := ⟨_, rfl⟩
          obtain ⟨bx, HX⟩ : ∃ x, Hid (x = wr.heap.size) := ⟨_, rfl⟩
          have HBV : Hid (Below wr.heap.size wr V) := by rw [HV.out]; exact (Below.refl _ wr).alloc (Nat.le_refl _) _
          have HRB : Hid (Row V bx 40 r.cells) := by rw [HV.out, HX.out]; exact Row.mk wr r.cells _
          have HPX : Hid (Pair (· = bx) w1 V d m rb m) := HP1.out.more HBV.out (fun k hk => by
            subst hk
            have := HRB.out.lt
            have := HX.out
            omega)
          have HWA : Hid (Wf (m.act r.act).1) := HPX.out.wf_act r HR.out
          obtain ⟨A, HAA⟩ : ∃ A, Hid (A = (m.act r.act).1) := ⟨_, rfl⟩
          obtain ⟨co, HCO⟩ : ∃ x, Hid (x = (m.act r.act).2) := ⟨_, rfl⟩
          have HCA : Hid (A.calls ≤ j + 1) := by
            rw [HAA.out]
            have := act_calls m r.act
            have := HCM.out
            unfold Hid
            omega
          have HDO : Hid (∀ v, Pair (· = bx) w1 v d m rb m → Calls Try.prog 9 #[.pointer (some ⟨d, 0, none⟩), .agg #[.int .u8 r.act.kind, .string (str r.act.nA), .string (str r.act.nB), .slice r.da r.dl r.dc, .int .i64 r.act.num, .slice r.ka r.kl r.kc]] v fun e w' => e = .returned (.int .i64 co) ∧ Pair (· = bx) w1 w' d A rb m ∧ w'.heap[bx]? = v.heap[bx]?) := by
            intro v hv
            rw [HAA.out, HCO.out]
            exact (hv.does (by have := HCM.out; omega) r HR.out (by have := HDR.out; omega)).mono fun e w' ⟨h1, h2, h3⟩ => ⟨h1, h2, h3 bx rfl⟩
          have HWO : Hid (∀ v, Pair (· = bx) w1 v d A rb m → Calls Try.prog 10 #[.pointer (some ⟨rb, 0, none⟩), .agg #[.int .u8 r.act.kind, .string (str r.act.nA), .string (str r.act.nB), .slice r.da r.dl r.dc, .int .i64 r.act.num, .slice r.ka r.kl r.kc]] v fun e w' => e = .returned (.int .i64 co) ∧ Pair (· = bx) w1 w' d A rb A ∧ w'.heap[bx]? = v.heap[bx]?) := by
            intro v hv
            refine (hv.would HP1.out.wf (by have := HCM.out; omega) r HR.out (by have := HDR.out; omega)).mono fun e w' ⟨h1, h2, h3⟩ => ?_
            rw [HAA.out, HCO.out]
            rw [HAA.out] at h2
            exact ⟨h1, h2, h3 bx rfl⟩
          rw [← HAA.out] at HWA
          go_wp2_with fail
          rw [← HV.out, ← HX.out]
          have hP0 : Pair (· = bx) w1 V.drew d m rb m := HPX.out.later (Below.refl _ V).drew
          have R0 : Row V.drew bx 40 r.cells := HRB.out.at_ rfl
          obtain ⟨x0, x1, x2, x3, x4, x5⟩ := box_cells HRB.out
          have hca : A.calls ≤ 1000 := by have := HCA.out; omega
          have hon : (A.on == (!A.on)) = false := by cases A.on <;> rfl
          have HLT : Hid (j < n) := hlt
          clear c0 c1 c2 c3 c4 c5 hlt
          refine wp_thenR (F := fun v6 v7 => ({ tmps := #[Value.int IntKind.i64 ↑ro, Value.slice (some { block := b, off := off }) len cap, undef, undef, u4, Value.pointer (some { block := d, off := 0 }), Value.int IntKind.i64 0, Value.pointer (some { block := rb, off := 0 }), Value.int IntKind.i64 0, undef, Value.pointer (some { block := bx, off := 0 }), u11, u12, u13, u14, undef, undef, undef, undef, undef, undef, Value.slice (some { block := b, off := off }) len cap, Value.bool false, undef, Value.tuple #[Value.pointer (some { block := d, off := 0 }), Value.int IntKind.i64 0], Value.int IntKind.i64 ↑ro, Value.tuple #[Value.pointer (some { block := d, off := 0 }), Value.int IntKind.i64 0], Value.pointer (some { block := d, off := 0 }), Value.int IntKind.i64 0, Value.tuple #[Value.agg #[Value.int IntKind.i64 ↑ro, Value.slice none 0 0, Value.slice none 0 0, Value.slice none 0 0, Value.slice none 0 0, Value.int IntKind.i64 (-1), Value.bool false, Value.int IntKind.i64 0], Value.int IntKind.i64 0], Value.int IntKind.i64 ↑ro, Value.tuple #[Value.agg #[Value.int IntKind.i64 ↑ro, Value.slice none 0 0, Value.slice none 0 0, Value.slice none 0 0, Value.slice none 0 0, Value.int IntKind.i64 (-1), Value.bool false, Value.int IntKind.i64 0], Value.int IntKind.i64 0], Value.agg #[Value.int IntKind.i64 ↑ro, Value.slice none 0 0, Value.slice none 0 0, Value.slice none 0 0, Value.slice none 0 0, Value.int IntKind.i64 (-1), Value.bool false, Value.int IntKind.i64 0], Value.int IntKind.i64 0, Value.int IntKind.i64 0, Value.int IntKind.i64 0, Value.bool false, Value.bool false, Value.pointer (some { block := d, off := 0 }), Value.bool true, Value.int IntKind.i64 0, Value.bool true, Value.bool false, Value.bool false, Value.int IntKind.i64 0, Value.bool false, undef, Value.slice (some { block := b, off := off }) len cap, Value.slice (some { block := b, off := off }) n cap, Value.int IntKind.i64 ↑n, Value.int IntKind.i64 ↑j, Value.bool true, Value.pointer (some { block := b, off := off + j * 6 }), Value.agg #[Value.int IntKind.u8 ↑r.act.kind, Value.string (str r.act.nA), Value.string (str r.act.nB), Value.slice r.da r.dl r.dc, Value.int IntKind.i64 r.act.num, Value.slice r.ka r.kl r.kc], Value.pointer (some { block := d, off := 0 }), Value.agg #[Value.int IntKind.u8 ↑r.act.kind, Value.string (str r.act.nA), Value.string (str r.act.nB), Value.slice r.da r.dl r.dc, Value.int IntKind.i64 r.act.num, Value.slice r.ka r.kl r.kc], Value.int IntKind.i64 ↑co, Value.agg #[Value.int IntKind.u8 ↑r.act.kind, Value.string (str r.act.nA), Value.string (str r.act.nB), Value.slice r.da r.dl r.dc, Value.int IntKind.i64 r.act.num, Value.slice r.ka r.kl r.kc], Value.int IntKind.i64 ↑co, Value.bool false, Value.bool false, Value.pointer (some { block := d, off := 0 }), Value.bool A.on, Value.pointer (some { block := rb, off := 6 }), Value.bool !A.on, Value.bool false, Value.bool false, Value.bool false, Value.pointer (some { block := d, off := 0 }), v6, v7, Value.bool true, Value.bool false, Value.bool false, Value.bool false, Value.pointer (some { block := d, off := 0 }), Value.int IntKind.i64 ↑A.uses, Value.int IntKind.i64 ↑A.uses, Value.bool false, Value.bool false, Value.bool false, Value.pointer (some { block := d, off := 0 }), Value.int IntKind.i64 ↑A.calls, Value.pointer (some { block := rb, off := 7 }), Value.int IntKind.i64 ↑A.calls, Value.bool false, Value.bool false, u87, u88, u89, u90, u91, u92, u93, u94, u95, u96, u97, u98, u99, u100, u101, u102, u103, u104, u105, u106, u107, u108, u109, u110, undef, undef, undef, undef, undef, undef, undef, undef, undef, undef, undef, undef, undef, undef, undef, undef, undef, undef, undef, undef, undef, undef, undef, undef], defers := [] } : Go.Act)) (I := fun w' => Pair (· = bx) w1 w' d A rb A ∧ Row w' bx 40 r.cells) ?H1 ?H2
          case H1 =>
            refine wp_region_held_drew (S := fun w' => w'.cell? ⟨bx, 0, none⟩ = some (.int .u8 r.act.kind) ∧ w'.cell? ⟨bx, 1, none⟩ = some (.string (str r.act.nA)) ∧ w'.cell? ⟨bx, 2, none⟩ = some (.string (str r.act.nB)) ∧ w'.cell? ⟨bx, 3, none⟩ = some (.slice r.da r.dl r.dc) ∧ w'.cell? ⟨bx, 4, none⟩ = some (.int .i64 r.act.num) ∧ w'.cell? ⟨bx, 5, none⟩ = some (.slice r.ka r.kl r.kc)) (by kernel_rfl) ⟨x0, x1, x2, x3, x4, x5⟩ (fun hHeld => ?_)
            refine held_take (i := 0) (v := ?_) rfl (by kernel_rfl) (by kernel_rfl) (by kernel_rfl) (fun _ _ _ h => Exit.noConfusion h.1) (Or.inl ⟨by rfl, ?_⟩) (by assumption) ?_
            rotate_left
            · (intro w hSw; (try dsimp only at hSw); go_simp) <;> with_reducible rfl
            simp only [Act.put, List.setIfInBounds_toArray, List.set_cons_zero, List.set_cons_succ]
            refine held_take (i := 1) (v := ?_) rfl (by kernel_rfl) (by kernel_rfl) (by kernel_rfl) (fun _ _ _ h => Exit.noConfusion h.1) (Or.inl ⟨by rfl, ?_⟩) (by assumption) ?_
            rotate_left
            · (intro w hSw; (try dsimp only at hSw); go_simp) <;> with_reducible rfl
            simp only [Act.put, List.setIfInBounds_toArray, List.set_cons_zero, List.set_cons_succ]
            refine held_take (i := 3) (v := ?_) rfl (by kernel_rfl) (by kernel_rfl) (by kernel_rfl) (fun _ _ _ h => Exit.noConfusion h.1) (Or.inl ⟨by rfl, ?_⟩) (by assumption) ?_
            rotate_left
            · (intro w hSw; (try dsimp only at hSw); go_simp) <;> with_reducible rfl
            simp only [Act.put, List.setIfInBounds_toArray, List.set_cons_zero, List.set_cons_succ]
            refine held_one (i := 2) rfl (by kernel_rfl) (fun K hK => ?_)
            go_simp
            refine (HDO.out _ hP0).mono ?_
            rintro e w4 ⟨rfl, hP4, hK4⟩
            have R4 := R0.at_ (hK4)
            obtain ⟨y0, y1, y2, y3, y4, y5⟩ := box_cells R4
            go_wp2_with fail
            refine hK.out _ _ ⟨y0, y1, y2, y3, y4, y5⟩ (fun hHeld => ?_)
            clear hK K
            try simp only [Act.put, List.setIfInBounds_toArray, List.set_cons_zero, List.set_cons_succ]
            refine held_one (i := 4) rfl (by kernel_rfl) (fun K hK => ?_)
            go_simp
            refine (HWO.out _ hP4).mono ?_
            rintro e w5 ⟨rfl, hP5, hK5⟩
            have R5 := R4.at_ (hK5)
            obtain ⟨y0, y1, y2, y3, y4, y5⟩ := box_cells R5
            go_wp2_with fail
            refine hK.out _ _ ⟨y0, y1, y2, y3, y4, y5⟩ (fun hHeld => ?_)
            clear hK K
            try simp only [Act.put, List.setIfInBounds_toArray, List.set_cons_zero, List.set_cons_succ]
            refine held_take (i := 5) (v := ?_) rfl (by kernel_rfl) (by kernel_rfl) (by kernel_rfl) (fun _ _ _ h => Exit.noConfusion h.1) (Or.inl ⟨by rfl, ?_⟩) (by assumption) ?_
            rotate_left
            · (intro w hSw; (try dsimp only at hSw); go_simp) <;> with_reducible rfl
            simp only [Act.put, List.setIfInBounds_toArray, List.set_cons_zero, List.set_cons_succ]
            refine held_take (i := 6) (v := ?_) rfl (by kernel_rfl) (by kernel_rfl) (by kernel_rfl) (fun _ _ _ h => Exit.noConfusion h.1) (Or.inl ⟨by rfl, ?_⟩) (by assumption) ?_
            rotate_left
            · (intro w hSw; (try dsimp only at hSw); go_simp) <;> with_reducible rfl
            simp only [Act.put, List.setIfInBounds_toArray, List.set_cons_zero, List.set_cons_succ]
            refine held_stronger (S2 := fun w' => (w'.cell? ⟨rb, 6, none⟩ = some (.bool (!A.on)) ∧ w'.cell? ⟨rb, 7, none⟩ = some (.int .i64 A.calls)) ∧ w'.cell? ⟨bx, 0, none⟩ = some (.int .u8 r.act.kind) ∧ w'.cell? ⟨bx, 1, none⟩ = some (.string (str r.act.nA)) ∧ w'.cell? ⟨bx, 2, none⟩ = some (.string (str r.act.nB)) ∧ w'.cell? ⟨bx, 3, none⟩ = some (.slice r.da r.dl r.dc) ∧ w'.cell? ⟨bx, 4, none⟩ = some (.int .i64 r.act.num) ∧ w'.cell? ⟨bx, 5, none⟩ = some (.slice r.ka r.kl r.kc)) (fun _ h => h.2) ?_
            have hHeld2 := And.intro hP5.cells hHeld
            refine held_take (i := 7) (v := ?_) rfl (by kernel_rfl) (by kernel_rfl) (by kernel_rfl) (fun _ _ _ h => Exit.noConfusion h.1) (Or.inl ⟨by rfl, ?_⟩) (by assumption) ?_
            rotate_left
            · (intro w hSw; (try dsimp only at hSw); go_simp) <;> with_reducible rfl
            simp only [Act.put, List.setIfInBounds_toArray, List.set_cons_zero, List.set_cons_succ]
            refine held_take (i := 9) (v := ?_) rfl (by kernel_rfl) (by kernel_rfl) (by kernel_rfl) (fun _ _ _ h => Exit.noConfusion h.1) (Or.inl ⟨by rfl, ?_⟩) (by assumption) ?_
            rotate_left
            · (intro w hSw; (try dsimp only at hSw); go_simp) <;> with_reducible rfl
            simp only [Act.put, List.setIfInBounds_toArray, List.set_cons_zero, List.set_cons_succ]
            refine held_take (i := 10) (v := ?_) rfl (by kernel_rfl) (by kernel_rfl) (by kernel_rfl) (fun _ _ _ h => Exit.noConfusion h.1) (Or.inl ⟨by rfl, ?_⟩) (by assumption) ?_
            rotate_left
            · (intro w hSw; (try dsimp only at hSw); go_simp) <;> with_reducible rfl
            simp only [Act.put, List.setIfInBounds_toArray, List.set_cons_zero, List.set_cons_succ]
            refine held_one (i := 8) rfl (by kernel_rfl) (fun K hK => ?_)
            go_simp
            refine hP5.mine.on.mono ?_
            rintro e _ ⟨rfl, rfl⟩
            go_wp2_with fail
            refine hK.out _ _ ⟨hP5.cells, y0, y1, y2, y3, y4, y5⟩ (fun hHeld => ?_)
            clear hK K
            try simp only [Act.put, List.setIfInBounds_toArray, List.set_cons_zero, List.set_cons_succ]
            refine held_take (i := 11) (v := ?_) rfl (by kernel_rfl) (by kernel_rfl) (by kernel_rfl) (fun _ _ _ h => Exit.noConfusion h.1) (Or.inl ⟨by rfl, ?_⟩) (by assumption) ?_
            rotate_left
            · (intro w hSw; (try dsimp only at hSw); go_simp) <;> with_reducible rfl
            simp only [Act.put, List.setIfInBounds_toArray, List.set_cons_zero, List.set_cons_succ]
            refine held_take (i := 12) (v := ?_) rfl (by kernel_rfl) (by kernel_rfl) (by kernel_rfl) (fun _ _ _ h => Exit.noConfusion h.1) (Or.inl ⟨by rfl, ?_⟩) (by assumption) ?_
            rotate_left
            · (intro w hSw; (try dsimp only at hSw); go_simp) <;> with_reducible rfl
            simp only [Act.put, List.setIfInBounds_toArray, List.set_cons_zero, List.set_cons_succ]
            refine held_take (i := 13) (v := ?_) rfl (by kernel_rfl) (by kernel_rfl) (by kernel_rfl) (fun _ _ _ h => Exit.noConfusion h.1) (Or.inl ⟨by rfl, ?_⟩) (by assumption) ?_
            rotate_left
            · (intro w hSw; (try dsimp only at hSw); go_simp) <;> with_reducible rfl
            simp only [Act.put, List.setIfInBounds_toArray, List.set_cons_zero, List.set_cons_succ]
            refine held_take (i := 14) (v := ?_) rfl (by kernel_rfl) (by kernel_rfl) (by kernel_rfl) (fun _ _ _ h => Exit.noConfusion h.1) (Or.inl ⟨by rfl, ?_⟩) (by assumption) ?_
            rotate_left
            · (intro w hSw; (try dsimp only at hSw); go_simp) <;> with_reducible rfl
            simp only [Act.put, List.setIfInBounds_toArray, List.set_cons_zero, List.set_cons_succ]
            refine held_one (i := 15) rfl (by kernel_rfl) (fun K hK => ?_)
            go_simp
            refine hP5.mine.names.mono ?_
            rintro e w6 ⟨v6, rfl, hX6, hB6⟩
            have hP6 := hP5.later hB6
            have R6 := R5.at_ (hB6.block _ R5.lt)
            obtain ⟨y0, y1, y2, y3, y4, y5⟩ := box_cells R6
            go_wp2_with fail
            refine hK.out _ _ ⟨hP6.cells, y0, y1, y2, y3, y4, y5⟩ (fun hHeld => ?_)
            clear hK K
            try simp only [Act.put, List.setIfInBounds_toArray, List.set_cons_zero, List.set_cons_succ]
            refine held_one (i := 16) rfl (by kernel_rfl) (fun K hK => ?_)
            go_simp
            refine (hP6.list HWA.out).mono ?_
            rintro e w7 ⟨v7, rfl, hX7, hB7⟩
            have hP7 := hP6.later hB7
            have R7 := R6.at_ (hB7.block _ R6.lt)
            obtain ⟨y0, y1, y2, y3, y4, y5⟩ := box_cells R7
            go_wp2_with fail
            refine hK.out _ _ ⟨hP7.cells, y0, y1, y2, y3, y4, y5⟩ (fun hHeld => ?_)
            clear hK K
            try simp only [Act.put, List.setIfInBounds_toArray, List.set_cons_zero, List.set_cons_succ]
            refine held_one (i := 17) rfl (by kernel_rfl) (fun K hK => ?_)
            go_simp
            refine (texts_same (hX6.later hB7) hX7).mono ?_
            rintro e w8 ⟨rfl, hB8⟩
            have hP8 := hP7.later hB8
            have R8 := R7.at_ (hB8.block _ R7.lt)
            obtain ⟨y0, y1, y2, y3, y4, y5⟩ := box_cells R8
            go_wp2_with fail
            refine hK.out _ _ ⟨hP8.cells, y0, y1, y2, y3, y4, y5⟩ (fun hHeld => ?_)
            clear hK K
            try simp only [Act.put, List.setIfInBounds_toArray, List.set_cons_zero, List.set_cons_succ]
            refine held_take (i := 18) (v := ?_) rfl (by kernel_rfl) (by kernel_rfl) (by kernel_rfl) (fun _ _ _ h => Exit.noConfusion h.1) (Or.inl ⟨by rfl, ?_⟩) (by assumption) ?_
            rotate_left
            · (intro w hSw; (try dsimp only at hSw); go_simp) <;> with_reducible rfl
            simp only [Act.put, List.setIfInBounds_toArray, List.set_cons_zero, List.set_cons_succ]
            refine held_take (i := 19) (v := ?_) rfl (by kernel_rfl) (by kernel_rfl) (by kernel_rfl) (fun _ _ _ h => Exit.noConfusion h.1) (Or.inl ⟨by rfl, ?_⟩) (by assumption) ?_
            rotate_left
            · (intro w hSw; (try dsimp only at hSw); go_simp) <;> with_reducible rfl
            simp only [Act.put, List.setIfInBounds_toArray, List.set_cons_zero, List.set_cons_succ]
            refine held_take (i := 20) (v := ?_) rfl (by kernel_rfl) (by kernel_rfl) (by kernel_rfl) (fun _ _ _ h => Exit.noConfusion h.1) (Or.inl ⟨by rfl, ?_⟩) (by assumption) ?_
            rotate_left
            · (intro w hSw; (try dsimp only at hSw); go_simp) <;> with_reducible rfl
            simp only [Act.put, List.setIfInBounds_toArray, List.set_cons_zero, List.set_cons_succ]
            refine held_take (i := 21) (v := ?_) rfl (by kernel_rfl) (by kernel_rfl) (by kernel_rfl) (fun _ _ _ h => Exit.noConfusion h.1) (Or.inl ⟨by rfl, ?_⟩) (by assumption) ?_
            rotate_left
            · (intro w hSw; (try dsimp only at hSw); go_simp) <;> with_reducible rfl
            simp only [Act.put, List.setIfInBounds_toArray, List.set_cons_zero, List.set_cons_succ]
            refine held_one (i := 22) rfl (by kernel_rfl) (fun K hK => ?_)
            go_simp
            refine hP8.mine.used.mono ?_
            rintro e w9 ⟨rfl, hB9⟩
            have hP9 := hP8.later hB9
            have R9 := R8.at_ (hB9.block _ R8.lt)
            obtain ⟨y0, y1, y2, y3, y4, y5⟩ := box_cells R9
            go_wp2_with fail
            refine hK.out _ _ ⟨hP9.cells, y0, y1, y2, y3, y4, y5⟩ (fun hHeld => ?_)
            clear hK K
            try simp only [Act.put, List.setIfInBounds_toArray, List.set_cons_zero, List.set_cons_succ]
            refine held_one (i := 23) rfl (by kernel_rfl) (fun K hK => ?_)
            go_simp
            refine (hP9.used HWA.out hca).mono ?_
            rintro e w10 ⟨rfl, hB10⟩
            have hP10 := hP9.later hB10
            have R10 := R9.at_ (hB10.block _ R9.lt)
            obtain ⟨y0, y1, y2, y3, y4, y5⟩ := box_cells R10
            go_wp2_with fail
            refine hK.out _ _ ⟨hP10.cells, y0, y1, y2, y3, y4, y5⟩ (fun hHeld => ?_)
            clear hK K
            try simp only [Act.put, List.setIfInBounds_toArray, List.set_cons_zero, List.set_cons_succ]
            refine held_take (i := 24) (v := ?_) rfl (by kernel_rfl) (by kernel_rfl) (by kernel_rfl) (fun _ _ _ h => Exit.noConfusion h.1) (Or.inl ⟨by rfl, ?_⟩) (by assumption) ?_
            rotate_left
            · (intro w hSw; (try dsimp only at hSw); go_simp) <;> with_reducible rfl
            simp only [Act.put, List.setIfInBounds_toArray, List.set_cons_zero, List.set_cons_succ]
            refine held_take (i := 25) (v := ?_) rfl (by kernel_rfl) (by kernel_rfl) (by kernel_rfl) (fun _ _ _ h => Exit.noConfusion h.1) (Or.inl ⟨by rfl, ?_⟩) (by assumption) ?_
            rotate_left
            · (intro w hSw; (try dsimp only at hSw); go_simp) <;> with_reducible rfl
            simp only [Act.put, List.setIfInBounds_toArray, List.set_cons_zero, List.set_cons_succ]
            refine held_take (i := 26) (v := ?_) rfl (by kernel_rfl) (by kernel_rfl) (by kernel_rfl) (fun _ _ _ h => Exit.noConfusion h.1) (Or.inl ⟨by rfl, ?_⟩) (by assumption) ?_
            rotate_left
            · (intro w hSw; (try dsimp only at hSw); go_simp) <;> with_reducible rfl
            simp only [Act.put, List.setIfInBounds_toArray, List.set_cons_zero, List.set_cons_succ]
            refine held_take (i := 27) (v := ?_) rfl (by kernel_rfl) (by kernel_rfl) (by kernel_rfl) (fun _ _ _ h => Exit.noConfusion h.1) (Or.inl ⟨by rfl, ?_⟩) (by assumption) ?_
            rotate_left
            · (intro w hSw; (try dsimp only at hSw); go_simp) <;> with_reducible rfl
            simp only [Act.put, List.setIfInBounds_toArray, List.set_cons_zero, List.set_cons_succ]
            refine held_take (i := 29) (v := ?_) rfl (by kernel_rfl) (by kernel_rfl) (by kernel_rfl) (fun _ _ _ h => Exit.noConfusion h.1) (Or.inl ⟨by rfl, ?_⟩) (by assumption) ?_
            rotate_left
            · (intro w hSw; (try dsimp only at hSw); go_simp) <;> with_reducible rfl
            simp only [Act.put, List.setIfInBounds_toArray, List.set_cons_zero, List.set_cons_succ]
            refine held_take (i := 30) (v := ?_) rfl (by kernel_rfl) (by kernel_rfl) (by kernel_rfl) (fun _ _ _ h => Exit.noConfusion h.1) (Or.inl ⟨by rfl, ?_⟩) (by assumption) ?_
            rotate_left
            · (intro w hSw; (try dsimp only at hSw); go_simp) <;> with_reducible rfl
            simp only [Act.put, List.setIfInBounds_toArray, List.set_cons_zero, List.set_cons_succ]
            refine held_one (i := 28) rfl (by kernel_rfl) (fun K hK => ?_)
            go_simp
            refine hP10.mine.calls.mono ?_
            rintro e _ ⟨rfl, rfl⟩
            go_wp2_with fail
            refine hK.out _ _ ⟨hP10.cells, y0, y1, y2, y3, y4, y5⟩ (fun hHeld => ?_)
            clear hK K
            try simp only [Act.put, List.setIfInBounds_toArray, List.set_cons_zero, List.set_cons_succ]
            refine held_take (i := 31) (v := ?_) rfl (by kernel_rfl) (by kernel_rfl) (by kernel_rfl) (fun _ _ _ h => Exit.noConfusion h.1) (Or.inl ⟨by rfl, ?_⟩) (by assumption) ?_
            rotate_left
            · (intro w hSw; (try dsimp only at hSw); go_simp) <;> with_reducible rfl
            simp only [Act.put, List.setIfInBounds_toArray, List.set_cons_zero, List.set_cons_succ]
            refine held_take (i := 32) (v := ?_) rfl (by kernel_rfl) (by kernel_rfl) (by kernel_rfl) (fun _ _ _ h => Exit.noConfusion h.1) (Or.inl ⟨by rfl, ?_⟩) (by assumption) ?_
            rotate_left
            · (intro w hSw; (try dsimp only at hSw); go_simp) <;> with_reducible rfl
            simp only [Act.put, List.setIfInBounds_toArray, List.set_cons_zero, List.set_cons_succ]
            refine wpAnyH_done (by kernel_rfl) ?_ _
            exact ⟨rfl, ⟨hP10, R10⟩, v6, v7, rfl⟩
          case H2 =>
            rintro w11 v6 v7 ⟨hP11, R11⟩
            have HP11 : Hid (Pair (· = bx) w1 w11 d A rb A) := hP11
            obtain ⟨z0, z1, z2, z3, z4, z5⟩ := box_cells R11
            have HR11 : Hid (Row w11 bx 40 r.cells) := R11
            clear hP11 R11 hP0 R0 x0 x1 x2 x3 x4 x5 z0 z2 z3 z4 z5
            have hra := HP11.out.mine.read r.act.nA HR.out.nA
            go_wp2_with fail
            refine hra.mono ?_
            rintro e s1 ⟨v8, rfl, hF1, hB1⟩
            have T1 := HP11.out.later hB1
            have hrb := T1.read HWA.out hca r.act.nA
            have z6 : s1.cell? ⟨bx, 1, none⟩ = some (.string (str r.act.nA)) := (hB1.cell (p := ⟨bx, 1, none⟩) HR11.out.lt).trans z1
            clear hra z1
            go_wp2_with fail
            refine hrb.mono ?_
            rintro e s2 ⟨vb, vd, rfl, hbz, hB2⟩
            have HT2 : Hid (Pair (· = bx) w1 s2 d A rb A) := T1.later hB2
            obtain ⟨va, vc, hva, hby, _⟩ := hF1.1.bys
            subst hva
            have hcv1 := conv_bys (cap := vc) (hby.later hB2)
            have hcv2 := conv_bys (cap := vd) hbz
            have hq : ((str (A.read r.act.nA).1).toList == (str (A.read r.act.nA).1).toList) = true := beq_self_eq_true _
            have hq2 : ((str (A.read r.act.nA).1).toList != (str (A.read r.act.nA).1).toList) = false := by rw [bne, hq]; rfl
            generalize str (A.read r.act.nA).1 = S at *
            generalize (A.read r.act.nA).1.length = sl at *
            generalize (A.read r.act.nA).2 = code at *
            clear hrb z6 T1 hF1 hby hbz hB1 hB2
            go_wp2
            go_roundw
            case rel =>
              have hT3 : Pair (fun _ => False) w1 s2 d A rb A := HT2.out.none
              have hlt := HLT.out
              exact ⟨j + 1, A, by omega, by go_num, hT3, HCA.out⟩
            case measure =>
              have hlt := HLT.out
              simp [intOf]; omega
        · have HWM : Hid (Wf m) := HP1.out.wf
          have hcm1 : m.calls ≤ 1000 := by have := HCM.out; omega
          have hls := HP1.out.list HWM.out
          go_wp2_with fail
          refine hls.mono ?_
          rintro e w4 ⟨v4, rfl, hX4, hB4⟩
          have HX4 : Hid (Texts w4 wr.heap.size v4 m.list) := hX4
          have HP4 : Hid (Pair (fun _ => False) w1 w4 d m rb m) := HP1.out.later hB4
          obtain ⟨la, lc, hv4⟩ := hX4.form
          subst hv4
          obtain ⟨ll, HLL⟩ : ∃ x, Hid (x = m.list.length) := ⟨_, rfl⟩
          rw [← HLL.out] at HX4 ⊢
          have HNL : Hid (∀ nm ∈ m.list, nm.length ≤ maxLen) := by
            intro nm hn
            have h1 : nm ∈ m.names.map (·.1) := by
              unfold M.list at hn
              by_cases hon : m.on = true
              · rw [if_pos hon] at hn; exact hn
              · rw [if_neg hon] at hn; cases hn
            obtain ⟨p, hp, rfl⟩ := List.mem_map.1 h1
            have h2 := isNm_len (HWM.out.okN.nms p hp)
            unfold maxLen
            omega
          have hllb : ll ≤ 64 := by
            rw [HLL.out]
            have := HWM.out.fewN
            unfold M.list
            split
            · rw [List.length_map]; exact this
            · exact Nat.zero_le _
          clear hls hX4 hB4 hsh
          go_wp2
          go_loopw [113] (fun i wq => ∃ q : Nat, q ≤ ll ∧ i = .int .i64 q ∧ Below w4.heap.size w4 wq) (fun i _ => ll - (intOf i).toNat)
          case atStart => exact ⟨0, Nat.zero_le _, rfl, Below.refl _ _⟩
          case round =>
            obtain ⟨q, hql, rfl, hBq⟩ := hrel
            have HPq : Hid (Pair (fun _ => False) w1 wr d m rb m) := HP4.out.later hBq
            have HBq : Hid (Below w4.heap.size w4 wr) := hBq
            by_cases hqt : q < ll
            · obtain ⟨nm, hnm⟩ : ∃ nm, m.list[q]? = some nm := ⟨_, List.getElem?_eq_getElem (by rw [← HLL.out]; exact hqt)⟩
              obtain ⟨g, lcap, hv, _, hgl, hgc, _, _⟩ := HX4.out.cell hnm
              rw [← HLL.out] at hv
              cases hv
              have hgr : wr.cell? ⟨g, q, none⟩ = some (.string (str nm)) := (hBq.cell (p := ⟨g, q, none⟩) hgl).trans hgc
              have hra := HPq.out.mine.read nm (HNL.out nm (List.mem_of_getElem? hnm))
              clear hgc hBq
              go_wp2_with fail
              refine hra.mono ?_
              rintro e s1 ⟨v8, rfl, hF1, hB1⟩
              have T1 := HPq.out.later hB1
              have hrb := T1.read HWM.out hcm1 nm
              clear hra hgr
              go_wp2_with fail
              refine hrb.mono ?_
              rintro e s2 ⟨vb, vd, rfl, hbz, hB2⟩
              have HB2 : Hid (Below w4.heap.size w4 s2) := HBq.out.trans ((hB1.trans (hB2.mono hB1.size)).mono HBq.out.size)
              obtain ⟨va, vc, hva, hby, _⟩ := hF1.1.bys
              subst hva
              have hcv1 := conv_bys (cap := vc) (hby.later hB2)
              have hcv2 := conv_bys (cap := vd) hbz
              have hq : ((str (m.read nm).1).toList == (str (m.read nm).1).toList) = true := beq_self_eq_true _
              have hq2 : ((str (m.read nm).1).toList != (str (m.read nm).1).toList) = false := by rw [bne, hq]; rfl
              generalize str (m.read nm).1 = S at *
              generalize (m.read nm).1.length = sl at *
              generalize (m.read nm).2 = code at *
              clear hrb T1 hF1 hby hbz hB1 hB2
              go_wp2
              go_roundw
              case rel => exact ⟨q + 1, by omega, by go_num, HB2.out⟩
              case measure => simp [intOf]; omega
            · clear hBq
              go_wp2_with fail
              refine (alive_any _).mono ?_
              rintro e w5 ⟨rfl, hB5⟩
              have HBf : Hid (Below w.heap.size w w5) := HB1.out.trans ((HPq.out.bel.trans (hB5.mono HPq.out.bel.size)).mono HB1.out.size)
              clear hB5
              go_wp2
              go_ret
              exact ⟨rfl, HBf.out⟩
end Go.Proofs.Ytedpiikdlpehjaa.Dsk
