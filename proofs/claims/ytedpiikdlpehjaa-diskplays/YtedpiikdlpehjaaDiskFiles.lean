/- Bytes that are appended, cloned; a file that is another one. -/
import Derived.Test.YtedpiikdlpehjaaDiskTold
import Derived.Deep.Upon
import Derived.Lib.SliceRun
namespace Go.Proofs.Ytedpiikdlpehjaa.Dsk
open Go Go.RowKit Go.Maps
set_option linter.unusedSimpArgs false
set_option linter.unusedVariables false

theorem infoByte : (Try.prog.info? 5).map (fun i => (i.zero, i.size, i.bytes)) = some (some (.int .u8 0), 1, 1) := by kernel_rfl
/-- bytes that lie in memory -/
def Bys (w : World) (a : Option Addr) (len : Nat) (l : List UInt8) : Prop :=
  len = l.length ∧ (0 < len → ∃ b off, a = some ⟨b, off, none⟩ ∧ b < w.heap.size ∧ ∀ i, i < len → w.cell? ⟨b, off + i, none⟩ = some (.int .u8 ((l.getD i 0).toNat : Int)))
theorem Bys.at_ {w w' : World} {a : Option Addr} {len : Nat} {l : List UInt8} (h : Bys w a len l) (hs : w.heap.size ≤ w'.heap.size) (e : ∀ b off, a = some ⟨b, off, none⟩ → 0 < len → b < w.heap.size → w'.heap[b]? = w.heap[b]?) : Bys w' a len l := by
  refine ⟨h.1, fun hp => ?_⟩
  obtain ⟨b, off, ha, hlt, hc⟩ := h.2 hp
  refine ⟨b, off, ha, Nat.lt_of_lt_of_le hlt hs, fun i hi => ?_⟩
  rw [World.cell?_of_block (w := w) (a := ⟨b, off + i, none⟩) (e b off ha hp hlt)]
  exact hc i hi
theorem Bys.later {w w' : World} {a : Option Addr} {len : Nat} {l : List UInt8} (h : Bys w a len l) (hb : Below w.heap.size w w') : Bys w' a len l := h.at_ hb.size fun b _ _ _ hl => hb.block b hl
theorem Bys.only {w w' : World} {F : Nat → Prop} {a : Option Addr} {len : Nat} {l : List UInt8} (h : Bys w a len l) (hb : Only F w w') (hF : ∀ b off, a = some ⟨b, off, none⟩ → 0 < len → ¬ F b) : Bys w' a len l := h.at_ hb.size fun b off ha hp hl => hb.block b hl (hF b off ha hp)
theorem bys_cells {w : World} {a : Option Addr} {len : Nat} {l : List UInt8} (h : Bys w a len l) {ad : Addr} (ha : a = some ad) : ∀ j u, (byC l)[j]? = some u → w.cell? (ad.add j) = some u := by
  intro j u hu
  have hj : j < l.length := by
    have := (List.getElem?_eq_some_iff.1 hu).1
    rwa [byC_len] at this
  obtain ⟨b, off, ha', _, hc⟩ := h.2 (by rw [h.1]; omega)
  rw [ha] at ha'
  cases ha'
  rw [byC_at l j hj] at hu
  have e : (⟨b, off, none⟩ : Addr).add j = ⟨b, off + j, none⟩ := by unfold Addr.add; split <;> simp_all
  rw [e, ← hu]
  exact hc j (by rw [h.1]; exact hj)
theorem Held.bys {w : World} {v : Value} {l : List UInt8} (h : Held w v l) : ∃ a cap, v = .slice a l.length cap ∧ Bys w a l.length l ∧ l.length ≤ cap ∧ cap ≤ maxLen ∧ (a = none → cap = 0 ∧ l = []) ∧ (∀ ad, a = some ad → v.ownBlock = some ad.block) := by
  rcases h with ⟨rfl, rfl⟩ | ⟨g, cap, cur, rfl, hr, h1, h2, h3, h4⟩
  · exact ⟨none, 0, rfl, ⟨rfl, fun h => absurd h (by decide)⟩, Nat.le_refl _, Nat.zero_le _, fun _ => ⟨rfl, rfl⟩, fun ad h => by cases h⟩
  · refine ⟨_, cap, rfl, ⟨rfl, fun hp => ⟨g, 0, rfl, hr.lt, fun i hi => ?_⟩⟩, h1, h3, (fun h => by cases h), fun ad h => by cases h; rfl⟩
    rw [Nat.zero_add, hr.cell, ← byC_at l i hi, ← h4, List.getElem?_take, if_pos hi]
/-- string(b) -/
theorem conv_bys {w : World} {a : Option Addr} {len cap : Nat} {l : List UInt8} (h : Bys w a len l) : (convert 37 9 (.slice a len cap)).run Try.prog w = .ok (.string (str l)) w := by
  obtain ⟨rfl, h⟩ := h
  cases a with
  | none =>
    have h0 : l = [] := by
      by_cases hp : 0 < l.length
      · obtain ⟨b, off, ha, _⟩ := h hp; cases ha
      · exact List.eq_nil_of_length_eq_zero (by omega)
    subst h0
    exact run_convert_bytes_nil w 37 5 Try.underlying37 Try.underlying5 0 cap 9 Try.underlying9
  | some p =>
    refine run_convert_bytes_back w 37 9 5 p cap l Try.underlying37 Try.underlying5 Try.underlying9 fun j hj => ?_
    obtain ⟨b, off, ha, _, hc⟩ := h (by omega)
    cases ha
    have e : (⟨b, off, none⟩ : Addr).add j = ⟨b, off + j, none⟩ := by unfold Addr.add; split <;> simp_all
    rw [e, hc j hj, List.getD_eq_getElem?_getD, List.getElem?_eq_getElem hj]
    rfl
theorem bys_src {w : World} {a : Option Addr} {l : List UInt8} (cap : Nat) (h : Bys w a 0 l) : Src Try.prog 1 37 (.slice a 0 cap) 0 [] w := by
  cases a with
  | none => exact Src.ofNil w Try.underlying37 cap
  | some p => exact Src.ofSlice w Try.underlying37 p 0 cap [] rfl (fun j u hu => by simp at hu) (fun u hu => by cases hu)
theorem run_append_held {w : World} {v : Value} {l : List UInt8} (h : Held w v l) (ty : TypeId) (a : Option Addr) (len cap : Nat) (bs : List UInt8) (hb : Bys w a len bs) (hm : l.length + len ≤ 140737488355328) :
    ∃ v' w', (Builtin.append_ #[37, 37] ty #[v, .slice a len cap]).run Try.prog w = .ok v' w' ∧ Held w' v' (l ++ bs) ∧ w.grownBy w' v.ownBlock ∧ (∀ b, v'.ownBlock = some b → v.ownBlock = some b ∨ w.heap.size ≤ b) := by
  obtain ⟨i0, hi, hz0, hz1, hz2⟩ := info_parts infoByte
  have hlen := hb.1
  by_cases h0 : len = 0
  · subst h0
    have hbs : bs = [] := List.eq_nil_of_length_eq_zero hlen.symm
    obtain ⟨a', c', hv, _, h1, _⟩ := h.bys
    have hrun := run_append_nothing (P := Try.prog) w 37 37 ty 5 i0 Try.underlying37 hi a' l.length c' h1 (.slice a 0 cap) (by rw [hz1]; exact bys_src cap hb)
    rw [← hv] at hrun
    exact ⟨v, w, hrun, by rw [hbs, List.append_nil]; exact h, World.grownBy.refl w _, fun b hb => .inl hb⟩
  · obtain ⟨sb, so, rfl, _⟩ := hb.2 (by omega)
    have hnews := bys_cells hb rfl
    have hnl : (byC bs).length = len * i0.size := by rw [byC_len, hz1, Nat.mul_one]; exact hlen.symm
    have grown : ∀ (old : Nat), old < l.length + len → ∀ row, Held (w.drew.alloc (.cells ((byC l).toArray ++ (byC bs).toArray ++ Builtin.zeroCells (Value.cells (.int .u8 0)) (grownCap w (l.length + len) old 5 - (l.length + len))) 5)) (.slice (some ⟨w.heap.size, 0, none⟩) (l.length + len) (grownCap w (l.length + len) old 5)) (l ++ bs) ∧
        w.grownBy (w.drew.alloc (.cells ((byC l).toArray ++ (byC bs).toArray ++ Builtin.zeroCells (Value.cells (.int .u8 0)) (grownCap w (l.length + len) old 5 - (l.length + len))) 5)) row := by
      intro old ho row
      have hge := grownCap_ge w (l.length + len) old 5
      have hcm := grownCap_le_maxLen w (l.length + len) old 5 (by unfold maxLen; omega)
      have hll : (l ++ bs).length = l.length + len := by rw [List.length_append, hlen]
      refine ⟨.inr ⟨w.heap.size, _, byC l ++ byC bs ++ (Builtin.zeroCells (Value.cells (.int .u8 0)) (grownCap w (l.length + len) old 5 - (l.length + len))).toList, by rw [hll], ?_, by rw [hll]; exact hge, ?_, hcm, ?_⟩, ⟨rfl, rfl, rfl, by simp, fun k hk _ => heap_alloc_old w.drew _ k hk⟩⟩
      · unfold Row
        have e : ∀ Z : Array Value, (byC l).toArray ++ (byC bs).toArray ++ Z = (byC l ++ byC bs ++ Z.toList).toArray := by
          intro Z
          apply Array.ext'
          simp
        rw [← e]
        exact heap_alloc_new w.drew _
      · simp only [List.length_append, byC_len, Array.length_toList, size_zeroCells, ← hlen]
        have : (Value.cells (.int .u8 0)).size = 1 := rfl
        rw [this]
        omega
      · rw [byC_app, List.take_append_of_le_length (by simp [byC_len]), List.take_of_length_le (by simp [byC_len])]
    rcases h with ⟨rfl, rfl⟩ | ⟨g, c', cur, rfl, hr, h1, h2, h3, h4⟩
    · have hr := run_append_nil (P := Try.prog) w 37 ty 5 i0 (.int .u8 0) Try.underlying37 hi hz0 ⟨sb, so, none⟩ len cap (byC bs) hnl hnews (by omega) (by omega) (by rw [hz2]; simp only [List.length_nil] at hm; omega)
      have hgr := grown 0 (by simp; omega) (Value.ownBlock (.slice none 0 0))
      simp only [List.length_nil, Nat.zero_add, byC, List.map_nil, List.nil_append, Array.empty_append] at hgr hr ⊢
      exact ⟨_, _, hr, hgr.1, hgr.2, fun b hb => by simp [Value.ownBlock] at hb; subst hb; exact .inr (Nat.le_refl _)⟩
    · by_cases hroom : l.length + len ≤ c'
      · have hr' := run_append_room (P := Try.prog) w 37 ty 5 i0 Try.underlying37 hi g l.length c' cur.toArray hr ⟨sb, so, none⟩ len cap (byC bs) hnl hnews (byC_one _) hroom (by rw [hnl, hz1]; simp; omega)
        rw [hz1] at hr'
        simp only [Nat.mul_one] at hr'
        have hll : (l ++ bs).length = l.length + len := by rw [List.length_append, hlen]
        refine ⟨_, _, hr', .inr ⟨g, c', cur.take l.length ++ byC bs ++ cur.drop (l.length + (byC bs).length), by rw [hll], ?_, by rw [hll]; exact hroom, ?_, h3, ?_⟩, ⟨rfl, rfl, rfl, by simp, fun k _ hk => setRow_other w g k _ (fun e => hk (by simp [Value.ownBlock, e]))⟩, fun b hb => .inl hb⟩
        · unfold Row
          exact setRow_heap w g cur.toArray _ 5 _ hr
        · simp only [List.length_append, List.length_take, List.length_drop, byC_len]
          omega
        · rw [h4, byC_app, List.take_append_of_le_length (by simp [byC_len]), List.take_of_length_le (by simp [byC_len])]
      · have holds : ∀ j u, (byC l)[j]? = some u → w.cell? ((⟨g, 0, none⟩ : Addr).add j) = some u := by
          intro j u hu
          have hj : j < l.length := by
            have := (List.getElem?_eq_some_iff.1 hu).1
            rwa [byC_len] at this
          have e : (⟨g, 0, none⟩ : Addr).add j = ⟨g, j, none⟩ := by unfold Addr.add; split <;> simp_all
          rw [e, hr.cell, ← hu, ← h4, List.getElem?_take, if_pos hj]
        have hr' := run_append_grow (P := Try.prog) w 37 ty 5 i0 (.int .u8 0) Try.underlying37 hi hz0 ⟨g, 0, none⟩ l.length c' (byC l) (by rw [byC_len, hz1, Nat.mul_one]) holds ⟨sb, so, none⟩ len cap (byC bs) hnl hnews (by omega) (by omega) (growslice_fits (by omega) (by rw [hz2]; omega))
        have hgr := grown c' (by omega) (Value.ownBlock (.slice (some ⟨g, 0, none⟩) l.length c'))
        exact ⟨_, _, hr', hgr.1, hgr.2, fun b hb => by simp [Value.ownBlock] at hb; subst hb; exact .inr (Nat.le_refl _)⟩
end Go.Proofs.Ytedpiikdlpehjaa.Dsk
