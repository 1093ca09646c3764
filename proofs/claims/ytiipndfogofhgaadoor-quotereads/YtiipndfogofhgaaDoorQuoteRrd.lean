/- The reference's Read, by its contract. -/
import Derived.Test.YtiipndfogofhgaaDoorQuoteRrs
import Derived.Test.YtiipndfogofhgaaDoorQuoteRrb
namespace Go.Proofs.YtiipndfogofhgaaDoor.Quo
open Utf Rws
open Go.RowKit
set_option linter.unusedSimpArgs false
set_option linter.unusedVariables false
set_option maxRecDepth 100000

set_option maxHeartbeats 8000000 in
theorem rread_any (l : List UInt8) (w : World) (hl : l.length ≤ 140737488351232) :
    Calls Tryd.prog 10 #[.string (mk l)] w fun e w' => e = .returned (.tuple #[.string (mk (rd l).1), .int .i64 ((rd l).2.1 : Int), .agg #[.int .i64 ((rd l).2.2.1 : Int), .int .i64 ((rd l).2.2.2 : Int)]]) ∧ Below w.heap.size w w' := by
  obtain ⟨i0, hi, hz0, hz1, hz2⟩ := info_parts Tryd.info5
  have hsz := mk_size l
  have hs' : (mk l).size ≤ maxLen := by rw [mk_size]; unfold maxLen; omega
  obtain ⟨R, hR⟩ : ∃ R, R = rd l := ⟨_, rfl⟩
  have hrd := rd_A l
  rw [← hR] at hrd ⊢
  have hq0 : ((mk l).toList == []) = (l == []) := by rw [ByteArray.toList_eq, mk_data]
  obtain ⟨N, hN⟩ : ∃ N, N = l.length := ⟨_, rfl⟩
  rw [← hN] at hsz hl
  by_cases h0 : l = []
  · have HV : Hid (R = ([], 0, 3, 0)) := by rw [hrd, if_pos h0]; exact rfl
    have hq : ((mk l).toList == []) = true := by rw [hq0, h0]; rfl
    clear hrd h0 hq0 hR hN
    go_enter Tryd.func10, Tryd.ntmps10
    go_wp2
    refine bodyPost_ret (v := .tuple #[.string ⟨#[]⟩, .int .i64 0, .agg #[.int .i64 3, .int .i64 0]]) (by simp [results, Tryd.results10, go_sem]) rfl ⟨?_, below_alloc _ _⟩
    rw [HV.out]; rfl
  have hl1 : 1 ≤ N := by rw [hN]; exact List.length_pos_iff.2 h0
  rw [if_neg h0] at hrd
  have hq : ((mk l).toList == []) = false := by rw [hq0]; simpa using h0
  have hg0 : ∀ h, (mk l)[0]'h = l.getD 0 0 := fun h => getD_mk l 0 h
  have hgm : ∀ i h, (mk l)[i]'h = l.getD i 0 := fun i h => getD_mk l i h
  obtain ⟨c, hc⟩ : ∃ c, c = l.getD 0 0 := ⟨_, rfl⟩
  rw [← hc] at hg0 hrd
  have HGM : Hid (∀ i h, (mk l)[i]'h = l.getD i 0) := hgm
  have HN : Hid (N = l.length) := hN
  clear hq0 hR hc h0 hgm hN
  have hn39 : ((c.toNat : Int) != 39) = !(c == 39) := congrArg (!·) (blit c 39)
  have hn34 : ((c.toNat : Int) != 34) = !(c == 34) := congrArg (!·) (blit c 34)
  have hb39 : ((c.toNat : Int) == 39) = (c == 39) := blit c 39
  have hb34 : ((c.toNat : Int) == 34) = (c == 34) := blit c 34
  by_cases hqq : c = 39 ∨ c = 34
  · rw [if_pos hqq] at hrd
    rcases hqq with hc | hc
    · exact rread_s l w N hl hsz HN hl1 c hc hg0 R hrd
    · exact rread_d l w N hl hsz HN hl1 c hc hg0 R hrd
  · have HV : Hid (R = ([], 0, 3, 0)) := by rw [hrd, if_neg hqq]; exact rfl
    have c1 : (c == 39) = false := by simp; exact fun h => hqq (.inl h)
    have c2 : (c == 34) = false := by simp; exact fun h => hqq (.inr h)
    rw [c1] at hn39 hb39
    rw [c2] at hn34 hb34
    clear hrd hqq c1 c2
    go_enter Tryd.func10, Tryd.ntmps10
    go_wp2
    refine bodyPost_ret (v := .tuple #[.string ⟨#[]⟩, .int .i64 0, .agg #[.int .i64 3, .int .i64 0]]) (by simp [results, Tryd.results10, go_sem]) rfl ⟨?_, below_alloc _ _⟩
    rw [HV.out]; rfl

end Go.Proofs.YtiipndfogofhgaaDoor.Quo
