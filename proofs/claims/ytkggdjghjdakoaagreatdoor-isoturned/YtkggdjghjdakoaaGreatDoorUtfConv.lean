/- Rows of bytes of the call's own: small words; string(b). -/
import Derived.Laws.BytesArg
import Derived.Test.YtkggdjghjdakoaaGreatDoorUtfFirstI
namespace Go.Proofs.YtkggdjghjdakoaaGreatDoor.Utf
open Go.RowKit
set_option linter.unusedSimpArgs false
set_option linter.unusedVariables false

theorem Tryz.info5 : (Tryz.prog.info? 5).map (fun i => (i.zero, i.size, i.bytes)) = some (some (.int .u8 0), 1, 1) := by kernel_rfl

theorem news_cells (w : World) (l : List Int) (t : TypeId) : ∀ j u, (l.map (Value.int .u8))[j]? = some u → (w.alloc (.cells (l.map (Value.int .u8)).toArray t)).cell? ((⟨w.heap.size, 0, none⟩ : Addr).add j) = some u := by
  intro j u hj
  have e : (⟨w.heap.size, 0, none⟩ : Addr).add j = ⟨w.heap.size, j, none⟩ := by unfold Addr.add; split <;> simp_all
  rw [e, cell_of_row _ w.heap.size j (l.map (Value.int .u8)).toArray t (0, 0) (heap_alloc_new w _)]
  simpa using hj
theorem news_one (l : List Int) : ∀ u ∈ l.map (Value.int .u8), u.oneCell' = true := by
  intro u hu
  obtain ⟨n, _, rfl⟩ := List.mem_map.1 hu
  rfl

theorem step {w wr w1 : World} {e : TypeId} {u v' : Value} {bs news : List Int} {o : Obj} {m : Nat} (hown : wr.ownsRow w.heap.size e 1 u bs.length (bs.map (Value.int .u8))) (hbe : Below w.heap.size w wr)
    (hown' : w1.ownsRow w.heap.size e 1 v' (bs.length + m) (bs.map (Value.int .u8) ++ news.map (Value.int .u8))) (hgrow : (wr.alloc o).grownBy w1 u.ownBlock) (hm : news.length = m) :
    w1.ownsRow w.heap.size e 1 v' (bs ++ news).length ((bs ++ news).map (Value.int .u8)) ∧ Below w.heap.size w w1 := by
  subst hm
  refine ⟨by rw [List.length_append, List.map_append]; exact hown', ?_⟩
  have hs := hbe.size
  exact (hbe.alloc hs o).grown hgrow (by simp; omega) (fun k hk => (hown.lt k hk).1)


theorem conv_own {w : World} {base n : Nat} {v : Value} {xs : List Int} (h : w.ownsRow base 5 1 v n (xs.map (Value.int .u8))) :
    (convert 139 9 v).run Tryz.prog w = .ok (.string (strOfNums xs)) w := by
  obtain ⟨hl, h⟩ := h
  rcases h with ⟨rfl, rfl⟩ | ⟨g, cap, cur, rfl, hb, hg, hn, hm, hs, ht⟩
  · have e : xs = [] := by simpa using hl
    subst e
    exact run_convert_bytes_nil w 139 5 Tryz.underlying139 Tryz.underlying5 0 0 9 Tryz.underlying9
  · have hx : xs.length = n := by simpa using hl
    refine run_convert_bytes_arg w 139 5 Tryz.underlying139 Tryz.underlying5 g 0 n cap xs hx ?_ 9 Tryz.underlying9
    intro i hi
    rw [Nat.zero_add, cell_of_row w g i cur 5 (0, 0) hg]
    have h1 : (cur.toList.take (n * 1))[i]? = some (.int .u8 (xs.getD i 0)) := by
      rw [ht, List.getElem?_map, List.getD_eq_getElem?_getD, List.getElem?_eq_getElem (by omega)]; rfl
    rw [List.getElem?_take, if_pos (by omega)] at h1
    simpa using h1


end Go.Proofs.YtkggdjghjdakoaaGreatDoor.Utf
