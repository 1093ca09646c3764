/- Several texts as one: IsoSrd, IsoTrnP, IsoTrnS. -/
import Derived.Test.YtkggdjghjdakoaaGreatDoorIbD
import Derived.Test.YtkggdjghjdakoaaGreatDoorIbA
import Derived.Test.YtkggdjghjdakoaaGreatDoorIbH
import Derived.Test.YtkggdjghjdakoaaGreatDoorIbF
section
/- Sorted, by its contract. -/
namespace Go.Proofs.YtkggdjghjdakoaaGreatDoor.Alk
open Utf Rws Pln Flw Grp
open Go.RowKit Go.Shelf
set_option linter.unusedSimpArgs false
set_option linter.unusedVariables false
set_option maxRecDepth 100000
set_option maxHeartbeats 4000000
attribute [local go_sem ↓] Go.wp_at_zero Go.wp_at_succ

theorem sorted_core {w : World} {ad : Option Addr} {len cap : Nat} {r : Int} {ns : List Nd} (hc : len ≤ cap) (hm : cap ≤ maxLen) (hr : i64 r) (hN : NAt w ad len ns) (hS : Sml ns) (hT : Tb w) :
    Calls Tryz.prog 14 #[gv ad len cap r] w (GRes w (rgG ⟨ns, r⟩) 1 ⟨cnN (ris ns) (odG (ris ns) r.toNat), 0⟩) := by
  have HLn : Hid (len = ns.length) := hN.1
  have hmm : maxLen = 9223372036854775807 := rfl
  have hlen : len ≤ 9223372036854775807 := by omega
  have h0 := CaS.new w (.slice ad len cap) (.int .i64 r)
  have HR : Hid (∀ w', Hid (CaS w w' w.heap.size (w.heap.size + 1) (.slice ad len cap) (.int .i64 r)) → Calls Tryz.prog 9 #[gv ad len cap r] w' fun e w'' => e = .returned (.bool (rgG ⟨ns, r⟩)) ∧ Hid (CaS w w'' w.heap.size (w.heap.size + 1) (.slice ad len cap) (.int .i64 r))) :=
    fun w' h => (right_core hlen (hN.later h.out.bl (Nat.le_refl _)) hS (hT.later h.out.bl)).mono (fun e w'' q => ⟨q.1, h.out.later q.2⟩)
  cases hq : rgG ⟨ns, r⟩
  · rw [hq] at HR
    clear hmm hlen hc hm hr
    go_enter Tryz.func14, Tryz.ntmps14
    go_wp2_with fail
    generalize (w.alloc (.cells #[.slice ad len cap, .int .i64 r] 24)).alloc (.cells #[.slice none 0 0, .int .i64 0] 24) = W0 at h0 ⊢
    refine (HR.out _ h0).mono ?_
    rintro e w1 ⟨rfl, H1⟩
    obtain ⟨c0, c1⟩ := H1.out.r.c2
    have z0 := H1.out.r.fz 0
    have z1 := H1.out.r.fz 1
    have HB : Hid (_ ∧ _) := ⟨(H1.out.r.set 0 (.slice none 0 0)).set 1 (.int .i64 0), (H1.out.bl.setCell (p := ⟨w.heap.size + 1, 0, none⟩) H1.out.hk (.slice none 0 0)).setCell (p := ⟨w.heap.size + 1, 1, none⟩) H1.out.hk (.int .i64 0)⟩
    clear H1 h0 HR hS hT hN
    go_wp2
    generalize (w1.setCell ⟨w.heap.size + 1, 0, none⟩ (.slice none 0 0)).setCell ⟨w.heap.size + 1, 1, none⟩ (.int .i64 0) = W9 at HB ⊢
    have g0 : W9.cell? ⟨w.heap.size + 1, 0, none⟩ = some (.slice none 0 0) := HB.out.1.cell 0
    have g1 : W9.cell? ⟨w.heap.size + 1, 1, none⟩ = some (.int .i64 0) := HB.out.1.cell 1
    refine bodyPost_ret (v := .tuple #[gv none 0 0 0, .int .i64 1]) (by simp [results, Tryz.results14, go_sem, g0, g1]) rfl ?_
    exact ⟨by rw [if_neg (by decide)], HB.out.2⟩
  · rw [hq] at HR
    have HG : Hid (∀ w', Hid (CaS w w' w.heap.size (w.heap.size + 1) (.slice ad len cap) (.int .i64 r)) → Calls Tryz.prog 28 #[gv ad len cap r] w' fun e w'' => ∃ ad' len' cap', e = .returned (gv ad' len' cap' r) ∧ Hid (Calls Tryz.prog 13 #[gv ad' len' cap' r] w'' fun e w3 => ∃ ad2 len2 cap2, e = .returned (.tuple #[gv ad2 len2 cap2 0, .int .i64 0]) ∧ Hid (GrP (w.heap.size + 1 + 1) w3 (gv ad2 len2 cap2 0) ⟨cnN (ris ns) (odG (ris ns) r.toNat), 0⟩) ∧ Hid (CaS w w3 w.heap.size (w.heap.size + 1) (.slice ad len cap) (.int .i64 r)) ∧ w3.cell? ⟨w.heap.size + 1, 0, none⟩ = some (.slice none 0 0) ∧ w3.cell? ⟨w.heap.size + 1, 1, none⟩ = some (.int .i64 0) ∧ w3.frozen? ⟨w.heap.size + 1, 0, none⟩ = false ∧ w3.frozen? ⟨w.heap.size + 1, 1, none⟩ = false)) := by
      intro w' h
      refine (rising_any (ns := ns) ⟨ad, len, cap, rfl, hc, hm, hr, hN.later h.out.bl (Nat.le_refl _)⟩ hq hS).mono ?_
      rintro e w'' ⟨ad', len', cap', rfl, H⟩
      obtain ⟨q1, q2⟩ := H.out
      refine ⟨ad', len', cap', rfl, ?_⟩
      have h2 := h.out.later q2
      have hx := canon_any q1 (sml_ris (rg_evn hq) hS) ((hT.later h2.bl))
      rw [rg_ris hq] at hx
      refine hx.mono ?_
      rintro e w3 ⟨q3, q4⟩
      rw [if_pos rfl] at q3
      obtain ⟨v, rfl, q5⟩ := q3
      have q6 := q5.v
      obtain ⟨ad2, len2, cap2, rfl, _⟩ := q6
      have h3 := h2.later q4
      exact ⟨ad2, len2, cap2, rfl, q5.mono (by have := h2.r.lt; omega), h3, h3.r.c2.1, h3.r.c2.2, h3.r.fz 0, h3.r.fz 1⟩
    clear hS hT hN hmm hlen hc hm hr
    go_enter Tryz.func14, Tryz.ntmps14
    go_wp2_with fail
    generalize (w.alloc (.cells #[.slice ad len cap, .int .i64 r] 24)).alloc (.cells #[.slice none 0 0, .int .i64 0] 24) = W0 at h0 ⊢
    refine (HR.out _ h0).mono ?_
    rintro e w1 ⟨rfl, H1⟩
    obtain ⟨c0, c1⟩ := H1.out.g.c2
    go_wp2_with (first | (go_at_call 28; refine (HG.out _ H1).mono ?_; rintro e w2 ⟨ad1, len1, cap1, rfl, H2⟩) | (go_at_call 13; refine H2.out.mono ?_; rintro e w3 ⟨ad', len', cap', rfl, H4, H5, d0, d1, z0, z1⟩))
    have HB : Hid (_ ∧ _ ∧ _) := ⟨(H5.out.r.set 0 (.slice ad' len' cap')).set 1 (.int .i64 0), (H5.out.bl.setCell (p := ⟨w.heap.size + 1, 0, none⟩) H5.out.hk (.slice ad' len' cap')).setCell (p := ⟨w.heap.size + 1, 1, none⟩) H5.out.hk (.int .i64 0), (H4.out.set (i := 0) (u := .slice ad' len' cap') (K := w.heap.size + 1) (by omega)).set (i := 1) (u := .int .i64 0) (K := w.heap.size + 1) (by omega)⟩
    generalize (w3.setCell ⟨w.heap.size + 1, 0, none⟩ (.slice ad' len' cap')).setCell ⟨w.heap.size + 1, 1, none⟩ (.int .i64 0) = W9 at HB ⊢
    have g0 : W9.cell? ⟨w.heap.size + 1, 0, none⟩ = some (.slice ad' len' cap') := HB.out.1.cell 0
    have g1 : W9.cell? ⟨w.heap.size + 1, 1, none⟩ = some (.int .i64 0) := HB.out.1.cell 1
    refine bodyPost_ret (v := .tuple #[gv ad' len' cap' 0, .int .i64 0]) (by simp [results, Tryz.results14, go_sem, g0, g1]) rfl ?_
    exact ⟨by rw [if_pos rfl]; exact ⟨_, rfl, HB.out.2.2.mono (by omega)⟩, HB.out.2.1⟩
theorem sorted_any {w : World} {v : Value} {g : Gr} (h : GrV w v g) (hS : Sml g.nodes) (hT : Tb w) : Calls Tryz.prog 14 #[v] w (GRes w (rgG g) 1 ⟨cnN (ris g.nodes) (odG (ris g.nodes) g.root.toNat), 0⟩) := by
  obtain ⟨ad, len, cap, rfl, h1, h2, h3, h4⟩ := h
  exact sorted_core h1 h2 h3 h4 hS hT
end Go.Proofs.YtkggdjghjdakoaaGreatDoor.Alk
end

section
/- Nodes that stand in other places, and whose entries are turned round: plain facts. -/
namespace Go.Proofs.YtkggdjghjdakoaaGreatDoor.Alk
open Utf Rws Pln Flw Grp
set_option linter.unusedSimpArgs false
set_option linter.unusedVariables false

/-- a place, as much farther, round -/
def mvN (N s x : Nat) : Nat := (x + s) % N
def mvI (N s : Nat) (a : Int) : Int := ((mvN N s a.toNat : Nat) : Int)
/-- Kids, the entries of a Map turned round -/
def tnK (k : Int) (l : List Int) : List Int := if k = 6 then fla (ens l).reverse else l
def tnN (N s : Nat) (n : Nd) : Nd := ⟨n.kind, n.text, (tnK n.kind n.kids).map (mvI N s)⟩
def trn (ns : List Nd) (s : Nat) : List Nd := (ns.drop (ns.length - s) ++ ns.take (ns.length - s)).map (tnN ns.length s)
theorem mv_or {N s x : Nat} (hx : x < N) (hs : s < N) : mvN N s x = x + s ∧ x + s < N ∨ mvN N s x + N = x + s ∧ N ≤ x + s := by
  unfold mvN
  by_cases h : x + s < N
  · exact .inl ⟨Nat.mod_eq_of_lt h, h⟩
  · refine .inr ⟨?_, by omega⟩
    rw [Nat.mod_eq_sub_mod (by omega), Nat.mod_eq_of_lt (by omega)]
    omega
theorem mv_lt {N s x : Nat} (hx : x < N) : mvN N s x < N := Nat.mod_lt _ (by omega)
theorem mv_inj {N s x y : Nat} (hs : s < N) (hx : x < N) (hy : y < N) (h : mvN N s x = mvN N s y) : x = y := by
  have h1 := mv_or hx hs
  have h2 := mv_or hy hs
  omega
theorem trn_len (ns : List Nd) (s : Nat) : (trn ns s).length = ns.length := by
  unfold trn
  rw [List.length_map, List.length_append, List.length_drop, List.length_take]
  omega
theorem trn_at {ns : List Nd} {s x : Nat} (hs : s < ns.length) (hx : x < ns.length) : (trn ns s).getD (mvN ns.length s x) nd0 = tnN ns.length s (ns.getD x nd0) := by
  unfold trn
  rw [List.getD_eq_getElem?_getD, List.getElem?_map, List.getD_eq_getElem?_getD]
  have e : (ns.drop (ns.length - s) ++ ns.take (ns.length - s))[mvN ns.length s x]? = ns[x]? := by
    rw [List.getElem?_append, List.length_drop]
    rcases mv_or hx hs with ⟨h1, h2⟩ | ⟨h1, h2⟩
    · rw [if_neg (by omega), List.getElem?_take, if_pos (by omega)]
      congr 1; omega
    · rw [if_pos (by omega), List.getElem?_drop]
      congr 1; omega
  rw [e, List.getElem?_eq_getElem hx]
  rfl
theorem trn_perm (ns : List Nd) (s : Nat) : (trn ns s).Perm (ns.map (tnN ns.length s)) := by
  unfold trn
  refine List.Perm.map _ ?_
  refine List.perm_append_comm.trans ?_
  rw [List.take_append_drop]
theorem trn_mem {ns : List Nd} {s : Nat} {n' : Nd} (h : n' ∈ trn ns s) : ∃ n ∈ ns, n' = tnN ns.length s n := by
  obtain ⟨n, h1, h2⟩ := List.mem_map.1 ((trn_perm ns s).mem_iff.1 h)
  exact ⟨n, h1, h2.symm⟩
theorem tnK_perm {k : Int} {l : List Int} (h : k = 6 → l.length % 2 = 0) : (tnK k l).Perm l := by
  unfold tnK
  split
  · rename_i q
    have := fla_perm (List.reverse_perm (ens l))
    rw [fla_ens l (h q)] at this
    exact this
  · exact .refl _
theorem tnK_kys {k : Int} {l : List Int} (h : k = 6 → l.length % 2 = 0) : (kys k 0 (tnK k l)).Perm (kys k 0 l) := by
  by_cases q : k = 6
  · subst q
    rw [kys_ens 0 l (h rfl) rfl, kys_ens 0 (tnK 6 l) (by rw [(tnK_perm h).length_eq]; exact h rfl) rfl]
    unfold tnK
    rw [if_pos rfl, ens_fla]
    exact (List.reverse_perm _).map _
  · rw [kys_non q, kys_non q]
theorem tn_kys {N s : Nat} {n : Nd} (h : n.kind = 6 → n.kids.length % 2 = 0) : (kys (tnN N s n).kind 0 (tnN N s n).kids).Perm ((kys n.kind 0 n.kids).map (mvI N s)) := by
  show (kys n.kind 0 ((tnK n.kind n.kids).map (mvI N s))).Perm _
  rw [kys_map]
  exact (tnK_kys h).map _
theorem kp_trn {ns : List Nd} {s : Nat} (hs : s < ns.length) {a : Int} (ha : isP ns.length a = true) : kp (trn ns s) (mvI ns.length s a) = kp ns a := by
  obtain ⟨x, rfl, hx⟩ := isP_nat ha
  unfold kp mvI
  rw [Int.toNat_natCast, Int.toNat_natCast, trn_at hs hx]
  rfl
theorem mvI_p {N s : Nat} {a : Int} (h : isP N a = true) : isP N (mvI N s a) = true := by
  obtain ⟨x, rfl, hx⟩ := isP_nat h
  unfold mvI Grp.isP
  rw [Int.toNat_natCast]
  have := mv_lt (s := s) hx
  rw [decide_eq_true (by omega), decide_eq_true (by omega)]
  rfl
theorem cnt_trn {N s : Nat} (hs : s < N) {l : List Int} (hl : ∀ a ∈ l, isP N a = true) {x : Nat} (hx : x < N) : cnt (l.map (mvI N s)) (mvN N s x) = cnt l x := by
  unfold Grp.cnt
  have e : (l.map (mvI N s)).map Int.toNat = (l.map Int.toNat).map (mvN N s) := by
    rw [List.map_map, List.map_map]
    exact List.map_congr_left fun a _ => by show Int.toNat (mvI N s a) = _; unfold mvI; rw [Int.toNat_natCast]; rfl
  rw [e]
  refine count_inj _ fun c hc h => ?_
  obtain ⟨a, ha, rfl⟩ := List.mem_map.1 hc
  obtain ⟨y, rfl, hy⟩ := isP_nat (hl a ha)
  rw [Int.toNat_natCast] at h ⊢
  exact mv_inj hs hy hx h
/-- a graph that may be may be so -/
theorem rg_trn {ns : List Nd} {r s : Nat} (hs : s < ns.length) (h : rgG ⟨ns, (r : Int)⟩ = true) : rgG ⟨trn ns s, ((mvN ns.length s r : Nat) : Int)⟩ = true := by
  have hE := rg_evn h
  obtain ⟨h1, h2, h3, h4, h5⟩ := rg_parts.1 h
  have hr : r < ns.length := by
    obtain ⟨x, e, hx⟩ := isP_nat h2
    have : r = x := by omega
    omega
  have hp : ∀ n ∈ ns, ∀ a ∈ n.kids, isP ns.length a = true := fun n hn => (rKd_parts.1 (h3 n hn).2).2.2.1
  have hky : ∀ n ∈ ns, ∀ a ∈ kys n.kind 0 n.kids, isP ns.length a = true := fun n hn a ha => hp n hn a (kys_mem _ _ _ _ ha)
  refine rg_parts.2 ⟨by rw [trn_len]; exact h1, ?_, fun n' hn' => ?_, fun n' hn' a ha => ?_, fun n' hn' => ?_⟩
  · rw [trn_len]
    have := mvI_p (s := s) h2
    unfold mvI at this
    rw [Int.toNat_natCast] at this
    exact this
  · obtain ⟨n, hn, rfl⟩ := trn_mem hn'
    obtain ⟨a1, a2⟩ := h3 n hn
    obtain ⟨b1, b2, b3, b4⟩ := rKd_parts.1 a2
    have hq := tnK_perm (hE n hn)
    refine ⟨a1, ?_⟩
    refine rKd_parts.2 ⟨fun q => ?_, fun q => ?_, fun a ha => ?_, fun a ha => ?_⟩
    · have := b1 q
      rw [this] at hq
      show (tnK n.kind n.kids).map _ = []
      rw [this, hq.eq_nil]; rfl
    · show ((tnK n.kind n.kids).map _).length % 2 = 0
      rw [List.length_map, hq.length_eq]; exact b2 q
    · rw [trn_len]
      obtain ⟨c, hc, rfl⟩ := List.mem_map.1 ha
      exact mvI_p (b3 c (hq.mem_iff.1 hc))
    · obtain ⟨c, hc, rfl⟩ := List.mem_map.1 ((tn_kys (hE n hn)).mem_iff.1 ha)
      have h7 : ((trn ns s).getD (mvI ns.length s c).toNat nd0).kind = (ns.getD c.toNat nd0).kind := congrArg Prod.fst (kp_trn hs (hky n hn c hc))
      rw [h7]
      exact b4 c hc
  · obtain ⟨n, hn, rfl⟩ := trn_mem hn'
    obtain ⟨c, hc, rfl⟩ := List.mem_map.1 ((tn_kys (hE n hn)).mem_iff.1 ha)
    obtain ⟨x, rfl, hx⟩ := isP_nat (hky n hn c hc)
    have h6 := h4 n hn _ hc
    unfold mvI
    simp only [Int.toNat_natCast] at h6 ⊢
    rw [timN_eq] at h6 ⊢
    rw [((trn_perm ns s).map _).sum_nat]
    rw [List.map_map]
    have e : ns.map ((fun n => cnt n.kids (mvN ns.length s x)) ∘ tnN ns.length s) = ns.map (fun n => cnt n.kids x) := List.map_congr_left fun m hm => by
      show cnt ((tnK m.kind m.kids).map (mvI ns.length s)) (mvN ns.length s x) = cnt m.kids x
      rw [cnt_trn hs (fun a ha => hp m hm a ((tnK_perm (hE m hm)).mem_iff.1 ha)) hx]
      exact cnt_perm (tnK_perm (hE m hm)) x
    rw [e]
    have e2 : bump (fun _ => 0) (mvN ns.length s r) (mvN ns.length s x) = bump (fun _ => 0) r x := by
      unfold bump
      by_cases q : x = r
      · subst q; rw [if_pos rfl, if_pos rfl]
      · rw [if_neg q, if_neg fun q2 => q (mv_inj hs hx hr q2)]
    rw [e2]
    exact h6
  · obtain ⟨n, hn, rfl⟩ := trn_mem hn'
    have := ((tn_kys (s := s) (N := ns.length) (hE n hn)).map (kp (trn ns s))).nodup_iff
    rw [this, List.map_map]
    have e : (kys n.kind 0 n.kids).map (kp (trn ns s) ∘ mvI ns.length s) = (kys n.kind 0 n.kids).map (kp ns) := List.map_congr_left fun a ha => kp_trn hs (hky n hn a ha)
    rw [e]
    exact h5 n hn
theorem sml_trn {ns : List Nd} {s : Nat} (h : Evn ns) (hS : Sml ns) : Sml (trn ns s) := by
  intro hl
  rw [trn_len] at hl
  obtain ⟨h1, h2⟩ := hS hl
  refine ⟨fun n' hn' => ?_, ?_⟩
  · obtain ⟨n, hn, rfl⟩ := trn_mem hn'
    exact h1 n hn
  · have e : sumK (trn ns s) = sumK ns := by
      unfold sumK
      rw [((trn_perm ns s).map _).sum_nat, List.map_map]
      congr 1
      exact List.map_congr_left fun n hn => by
        show ((tnK n.kind n.kids).map _).length = _
        rw [List.length_map, (tnK_perm (h n hn)).length_eq]
    rw [e]; exact h2
theorem srt_rev {α : Type} {f : α → Lb} {E : List α} (hn : (E.map f).Nodup) : srt f E.reverse = srt f E :=
  srt_of ((srt_perm f E.reverse).trans (List.reverse_perm E)) (srt_srd f _) hn
/-- as its entries rise it is the same, in other places -/
theorem rs_trn {ns : List Nd} {r s x : Nat} (hs : s < ns.length) (h : rgG ⟨ns, (r : Int)⟩ = true) (hx : x < ns.length) : rsK (trn ns s) (tnN ns.length s (ns.getD x nd0)) = (rsK ns (ns.getD x nd0)).map (mvI ns.length s) := by
  have hE := rg_evn h
  obtain ⟨h1, h2, h3, h4, h5⟩ := rg_parts.1 h
  have hn : ns.getD x nd0 ∈ ns := by
    rw [List.getD_eq_getElem?_getD, List.getElem?_eq_getElem hx]
    exact List.getElem_mem hx
  generalize ns.getD x nd0 = n at hn ⊢
  have hp : ∀ a ∈ n.kids, isP ns.length a = true := (rKd_parts.1 (h3 n hn).2).2.2.1
  unfold rsK
  show (if n.kind = 6 then fla (srt _ (ens ((tnK n.kind n.kids).map (mvI ns.length s)))) else (tnK n.kind n.kids).map (mvI ns.length s)) = _
  by_cases q : n.kind = 6
  · have he := hE n hn q
    have h6 := h5 n hn
    rw [q, kys_ens 0 n.kids he rfl] at h6
    rw [if_pos q, if_pos q]
    unfold tnK
    rw [if_pos q, ens_map, ens_fla, fla_map, srt_map (fun p : Int × Int => (mvI ns.length s p.1, mvI ns.length s p.2))]
    congr 1
    congr 1
    have hk : ∀ p ∈ (ens n.kids).reverse, kp (trn ns s) (mvI ns.length s p.1) = kp ns p.1 := fun p hp' => by
      refine kp_trn hs (hp _ ?_)
      have h7 : p.1 ∈ (ens n.kids).map (·.1) := List.mem_map.2 ⟨p, List.mem_reverse.1 hp', rfl⟩
      rw [← kys_ens 0 n.kids he rfl] at h7
      exact kys_mem _ _ _ _ h7
    rw [srt_congr hk]
    refine srt_rev ?_
    rw [List.map_map] at h6
    exact h6
  · rw [if_neg q, if_neg q]
    unfold tnK
    rw [if_neg q]
theorem lk_trn {ns : List Nd} {r s : Nat} (hs : s < ns.length) (h : rgG ⟨ns, (r : Int)⟩ = true) (hr : r < ns.length) : LkP (lab (ris ns)) (lab (ris (trn ns s))) (kd (ris ns)) (kd (ris (trn ns s))) r (mvN ns.length s r) := by
  have hE := rg_evn h
  obtain ⟨h1, h2, h3, h4, h5⟩ := rg_parts.1 h
  refine ⟨fun x y => x < ns.length ∧ y = mvN ns.length s x, fun x y hxy => ?_, ⟨fun x y y' e e' => e.2.trans e'.2.symm, fun x x' y e e' => mv_inj hs e.1 e'.1 (e.2.symm.trans e'.2)⟩, hr, rfl⟩
  obtain ⟨hx, rfl⟩ := hxy
  rw [lab_ris, lab_ris, kd_ris, kd_ris, trn_at hs hx, rs_trn hs h hx]
  refine ⟨by unfold lab; rw [trn_at hs hx]; rfl, by rw [List.length_map, List.length_map, List.length_map], fun i hi => ?_⟩
  rw [List.length_map] at hi
  have hn : ns.getD x nd0 ∈ ns := by
    rw [List.getD_eq_getElem?_getD, List.getElem?_eq_getElem hx]
    exact List.getElem_mem hx
  rw [List.map_map, getD_map Int.toNat _ i 0 0 hi, getD_map (Int.toNat ∘ mvI ns.length s) _ i 0 0 hi]
  generalize hl : rsK ns (ns.getD x nd0) = l at *
  have hm : l.getD i 0 ∈ (ns.getD x nd0).kids := by
    rw [← (rsK_perm ns (hE _ hn)).mem_iff, hl, List.getD_eq_getElem?_getD, List.getElem?_eq_getElem hi]
    exact List.getElem_mem hi
  obtain ⟨y, e, hy⟩ := isP_nat ((rKd_parts.1 (h3 _ hn).2).2.2.1 _ hm)
  rw [e]
  refine ⟨by simpa using hy, ?_⟩
  show Int.toNat (mvI _ _ _) = _
  unfold mvI
  rw [Int.toNat_natCast]
end Go.Proofs.YtkggdjghjdakoaaGreatDoor.Alk
end

section
/- The worlds of IsoTurned: nodes put in other places, a node's Kids under way. -/
namespace Go.Proofs.YtkggdjghjdakoaaGreatDoor.Alk
open Utf Rws Pln Flw Grp
open Go.RowKit
set_option linter.unusedSimpArgs false
set_option linter.unusedVariables false
set_option maxRecDepth 100000

/-- between two rounds -/
structure OuS (w W : World) (K0 Nb K6 B1 N i s : Nat) (ga gr hr : Value) (ns : List Nd) (vals : Nat → V3) : Prop where
  g : Bx W K0 #[ga, gr] 24
  h : Bx W K6 #[.slice (some ⟨Nb, 0, none⟩) N N, hr] 24
  row : NRow W Nb N vals
  dn : ∀ a, a < i → (vals (mvN N s a)).1 = .int .i64 (ns.getD a nd0).kind ∧ (vals (mvN N s a)).2.1 = .string (mk (ns.getD a nd0).text) ∧ ∃ kad klen kcap, (vals (mvN N s a)).2.2 = .slice kad klen kcap ∧ klen ≤ kcap ∧ kcap ≤ maxLen ∧ IAtB B1 W kad klen (tnN N s (ns.getD a nd0)).kids
  bl : Below w.heap.size w W
  hb : w.heap.size ≤ Nb ∧ w.heap.size ≤ K6 ∧ Nb < B1 ∧ K6 < B1 ∧ K0 < B1 ∧ K6 ≠ Nb ∧ K0 ≠ Nb ∧ K0 ≠ K6 ∧ B1 ≤ W.heap.size
theorem OuS.later {w W W' : World} {K0 Nb K6 B1 N i s : Nat} {ga gr hr : Value} {ns : List Nd} {vals : Nat → V3} (h : OuS w W K0 Nb K6 B1 N i s ga gr hr ns vals) (hb : Below W.heap.size W W') : OuS w W' K0 Nb K6 B1 N i s ga gr hr ns vals := by
  obtain ⟨h1, h2, h3, h4, h5, h6⟩ := h
  refine ⟨h1.later hb, h2.later hb, h3.later (hb.block Nb h3.lt), fun a ha => ?_, h5.trans (hb.mono h5.size), ?_⟩
  · obtain ⟨e1, e2, kad, klen, kcap, e3, e4, e5, e6⟩ := h4 a ha
    exact ⟨e1, e2, kad, klen, kcap, e3, e4, e5, e6.keep hb.size fun k _ hk => hb.block k hk⟩
  · have := hb.size
    omega
theorem OuS.new {w W : World} {K0 Nb K6 B1 N s : Nat} {ga gr hr : Value} {ns : List Nd} (h1 : Bx W K0 #[ga, gr] 24) (h2 : Bx W K6 #[.slice (some ⟨Nb, 0, none⟩) N N, hr] 24) (h3 : NRow W Nb N (fun _ => z3v)) (h5 : Below w.heap.size w W)
    (h6 : w.heap.size ≤ Nb ∧ w.heap.size ≤ K6 ∧ Nb < B1 ∧ K6 < B1 ∧ K0 < B1 ∧ K6 ≠ Nb ∧ K0 ≠ Nb ∧ K0 ≠ K6 ∧ B1 ≤ W.heap.size) : OuS w W K0 Nb K6 B1 N 0 s ga gr hr ns (fun _ => z3v) := ⟨h1, h2, h3, fun a ha => absurd ha (Nat.not_lt_zero a), h5, h6⟩
/-- a node is laid at its place -/
theorem ous_put {w W : World} {K0 Nb K6 B1 N i s : Nat} {ga gr hr : Value} {ns : List Nd} {vals : Nat → V3} (h : OuS w W K0 Nb K6 B1 N i s ga gr hr ns vals) (hs : s < N) (hi : i < N) {m : Nat} (hm : m = mvN N s i) {kad : Option Addr} {klen kcap : Nat} (hk : klen ≤ kcap ∧ kcap ≤ maxLen) (hI : IAtB B1 W kad klen (tnN N s (ns.getD i nd0)).kids) :
    OuS w (((W.setCell ⟨Nb, m * 3, none⟩ (.int .i64 (ns.getD i nd0).kind)).setCell ⟨Nb, m * 3 + 1, none⟩ (.string (mk (ns.getD i nd0).text))).setCell ⟨Nb, m * 3 + 2, none⟩ (.slice kad klen kcap)) K0 Nb K6 B1 N (i + 1) s ga gr hr ns
      (fun x => if x = m then (.int .i64 (ns.getD i nd0).kind, .string (mk (ns.getD i nd0).text), .slice kad klen kcap) else vals x) := by
  obtain ⟨h1, h2, h3, h4, h5, h6⟩ := h
  have hsz : (((W.setCell ⟨Nb, m * 3, none⟩ (.int .i64 (ns.getD i nd0).kind)).setCell ⟨Nb, m * 3 + 1, none⟩ (.string (mk (ns.getD i nd0).text))).setCell ⟨Nb, m * 3 + 2, none⟩ (.slice kad klen kcap)).heap.size = W.heap.size := by
    rw [World.size_setCell, World.size_setCell, World.size_setCell]
  have hkp : ∀ k, k ≠ Nb → (((W.setCell ⟨Nb, m * 3, none⟩ (.int .i64 (ns.getD i nd0).kind)).setCell ⟨Nb, m * 3 + 1, none⟩ (.string (mk (ns.getD i nd0).text))).setCell ⟨Nb, m * 3 + 2, none⟩ (.slice kad klen kcap)).heap[k]? = W.heap[k]? := fun k hk =>
    (Below.heap_setCell _ _ _ _ hk).trans ((Below.heap_setCell _ _ _ _ hk).trans (Below.heap_setCell _ _ _ _ hk))
  have hB : ∀ k, B1 ≤ k → k < W.heap.size → (((W.setCell ⟨Nb, m * 3, none⟩ (.int .i64 (ns.getD i nd0).kind)).setCell ⟨Nb, m * 3 + 1, none⟩ (.string (mk (ns.getD i nd0).text))).setCell ⟨Nb, m * 3 + 2, none⟩ (.slice kad klen kcap)).heap[k]? = W.heap[k]? := fun k hk _ => hkp k (by omega)
  refine ⟨(hkp K0 (by omega)).trans h1, (hkp K6 (by omega)).trans h2, h3.set3 m _ _ _, fun a ha => ?_, ((h5.setCell (p := ⟨Nb, m * 3, none⟩) h6.1 _).setCell (p := ⟨Nb, m * 3 + 1, none⟩) h6.1 _).setCell (p := ⟨Nb, m * 3 + 2, none⟩) h6.1 _, by rw [hsz]; exact h6⟩
  by_cases e : a = i
  · subst e
    simp only [if_pos hm.symm]
    exact ⟨trivial, trivial, kad, klen, kcap, rfl, hk.1, hk.2, hI.keep (by rw [hsz]; exact Nat.le_refl _) hB⟩
  · have ne : mvN N s a ≠ m := fun q => e (mv_inj hs (by omega) hi (q.trans hm))
    simp only [if_neg ne]
    obtain ⟨e1, e2, kad', klen', kcap', e3, e4, e5, e6⟩ := h4 a (by omega)
    exact ⟨e1, e2, kad', klen', kcap', e3, e4, e5, e6.keep (by rw [hsz]; exact Nat.le_refl _) hB⟩
/-- all of them are laid -/
theorem OuS.done {w W : World} {K0 Nb K6 B1 N s : Nat} {ga gr hr : Value} {ns : List Nd} {vals : Nat → V3} {r : Int} (h : OuS w W K0 Nb K6 B1 N N s ga gr hr ns vals) (hs : s < N) (hN : N = ns.length) (hc : N ≤ 4096) (hr64 : i64 r) (hn : ∀ a, a < N → i64 (ns.getD a nd0).kind ∧ (ns.getD a nd0).text.length ≤ 9223372036854775807) :
    GrV W (gv (some ⟨Nb, 0, none⟩) N N r) ⟨trn ns s, r⟩ := by
  refine ⟨some ⟨Nb, 0, none⟩, N, N, rfl, Nat.le_refl _, by have : maxLen = 9223372036854775807 := rfl; omega, hr64, by rw [trn_len]; exact hN, fun hp => ⟨Nb, 0, rfl, h.row.lt, fun x hx => ?_⟩⟩
  obtain ⟨a, ha, hm⟩ : ∃ a, a < N ∧ mvN N s a = x := by
    by_cases q : s ≤ x
    · refine ⟨x - s, by omega, ?_⟩
      rcases mv_or (N := N) (s := s) (x := x - s) (by omega) hs with h1 | h1 <;> omega
    · refine ⟨x + N - s, by omega, ?_⟩
      rcases mv_or (N := N) (s := s) (x := x + N - s) (by omega) hs with h1 | h1 <;> omega
  subst hm
  obtain ⟨e1, e2, kad, klen, kcap, e3, e4, e5, e6⟩ := h.dn a ha
  obtain ⟨c1, c2, c3⟩ := h.row.cells hx
  have e : (trn ns s).getD (mvN N s a) nd0 = tnN N s (ns.getD a nd0) := by
    rw [hN]
    exact trn_at (by omega) (by omega)
  rw [e]
  rw [e1] at c1
  rw [e2] at c2
  rw [e3] at c3
  rw [Nat.zero_add]
  exact ⟨kad, klen, kcap, e4, e5, (hn a ha).1, (hn a ha).2, e6.1, c1, c2, c3⟩
/-- a node's Kids under way, in a box of its own behind a world -/
structure InS (W1 W : World) (K9 : Nat) (k x yv : Value) (j : Nat) (xs : List Int) : Prop where
  y : Bx W K9 #[k, x, yv] 38
  own : W.ownsRow (K9 + 1) 3 1 yv j (xs.map fun a => Value.int .i64 a)
  bl : Below K9 W1 W
theorem InS.new (W1 : World) (k x : Value) : InS W1 (W1.alloc (.cells #[k, x, .slice none 0 0] 38)) W1.heap.size k x (.slice none 0 0) 0 [] := ⟨Bx.new _ _ _, ⟨rfl, .inl ⟨rfl, rfl⟩⟩, below_alloc _ _⟩
theorem InS.step {W1 wr eW : World} {K9 j yc : Nat} {k x ev : Value} {yad : Option Addr} {xs : List Int} {q : Int} (h : InS W1 wr K9 k x (.slice yad j yc) j xs) (hK : W1.heap.size = K9)
    (r1 : eW.ownsRow (K9 + 1) 3 1 ev (j + 1) ((xs.map fun a => Value.int .i64 a) ++ [.int .i64 q])) (r2 : (wr.drew.alloc (.cells #[.int .i64 q] 3)).grownBy eW (Value.ownBlock (.slice yad j yc))) :
    Bx eW K9 #[k, x, .slice yad j yc] 38 ∧ InS W1 (eW.setCell ⟨K9, 2, none⟩ ev) K9 k x ev (j + 1) (xs ++ [q]) := by
  have hlt := h.y.lt
  have hs0 : (wr.drew.alloc (.cells #[.int .i64 q] 3)).heap.size = wr.heap.size + 1 := World.size_alloc _ _
  have hob : ∀ b, b < K9 + 1 → some b ≠ Value.ownBlock (.slice yad j yc) := fun b hb e => by
    have := (own_block h.own e.symm).1
    omega
  have hy : Bx eW K9 #[k, x, .slice yad j yc] 38 := (r2.block K9 (by omega) (hob K9 (by omega))).trans ((Below.heap_alloc wr.drew _ K9 hlt).trans h.y)
  refine ⟨hy, hy.set 2 ev, ?_, ?_⟩
  · rw [List.map_append]
    exact own_later1 r1 fun g hg _ => Below.heap_setCell _ _ _ _ (by show g ≠ K9; omega)
  · have hW : K9 ≤ wr.heap.size := Nat.le_of_lt hlt
    have b1 : Below K9 W1 (wr.drew.alloc (.cells #[.int .i64 q] 3)) := h.bl.drew.trans ((below_alloc wr.drew _).mono hW)
    have b2 := b1.grown r2 (by omega) fun g e => by
      rcases Nat.lt_or_ge g (K9 + 1) with hg | hg
      · exact absurd e.symm (hob g hg)
      · omega
    exact b2.setCell (p := ⟨K9, 2, none⟩) (Nat.le_refl _) _
theorem IAtB.mono {B B' : Nat} {W : World} {ad : Option Addr} {len : Nat} {l : List Int} (h : IAtB B W ad len l) (hb : B' ≤ B) : IAtB B' W ad len l := ⟨h.1, fun b off hp e => Nat.le_trans hb (h.2 b off hp e)⟩
theorem tnK_len {k : Int} {l : List Int} (h : k = 6 → l.length % 2 = 0) : (tnK k l).length = l.length := (tnK_perm h).length_eq
theorem fla_at {α : Type} (d : α) : ∀ (E : List (α × α)) (i : Nat), i < E.length → (fla E).getD (2 * i) d = (E.getD i (d, d)).1 ∧ (fla E).getD (2 * i + 1) d = (E.getD i (d, d)).2
  | [], i, h => absurd h (Nat.not_lt_zero i)
  | p :: E, 0, _ => ⟨rfl, rfl⟩
  | p :: E, i + 1, h => by
    have := fla_at d E i (by simpa using h)
    rw [fla, show 2 * (i + 1) = (2 * i + 1) + 1 by omega, List.getD_cons_succ, List.getD_cons_succ, List.getD_cons_succ, show 2 * i + 1 + 1 + 1 = (2 * i + 1 + 1) + 1 by omega, List.getD_cons_succ, List.getD_cons_succ]
    exact this
/-- where the j-th of the turned Kids stood -/
def tnJ (k : Int) (n j : Nat) : Nat := if k = 6 then n - 2 - j / 2 * 2 + j % 2 else j
theorem tnK_at {k : Int} {l : List Int} (h : k = 6 → l.length % 2 = 0) {j : Nat} (hj : j < l.length) : tnJ k l.length j < l.length ∧ (tnK k l).getD j 0 = l.getD (tnJ k l.length j) 0 := by
  unfold tnJ tnK
  by_cases q : k = 6
  · have he := h q
    rw [if_pos q, if_pos q]
    refine ⟨by omega, ?_⟩
    have hj2 : j / 2 < (ens l).length := by rw [ens_len]; omega
    have hrl : j / 2 < (ens l).reverse.length := by rw [List.length_reverse]; exact hj2
    have hr : (ens l).reverse.getD (j / 2) (0, 0) = (ens l).getD ((ens l).length - 1 - j / 2) (0, 0) := by
      rw [List.getD_eq_getElem?_getD, List.getElem?_reverse hj2, List.getD_eq_getElem?_getD]
    obtain ⟨f1, f2⟩ := fla_at (0 : Int) (ens l).reverse (j / 2) hrl
    rw [hr] at f1 f2
    have hat := ens_at (0 : Int) l ((ens l).length - 1 - j / 2) (by rw [ens_len]; omega)
    rw [hat] at f1 f2
    rw [ens_len] at f1 f2
    rcases Nat.mod_two_eq_zero_or_one j with e | e
    · rw [show j = 2 * (j / 2) by omega, f1]
      simp only
      congr 1
      omega
    · have ej : j = 2 * (j / 2) + 1 := by omega
      rw [ej, f2]
      simp only
      congr 1
      omega
  · rw [if_neg q, if_neg q]
    exact ⟨hj, rfl⟩
end Go.Proofs.YtkggdjghjdakoaaGreatDoor.Alk
end
