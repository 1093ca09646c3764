/- Several texts as one: UtfConv, UtfEnc, UtfDec. -/
import Derived.Laws.BytesArg
import Derived.Test.YtaphijgbebhdlaaGreatDoorZ03UtfLeaf
import Derived.Test.YtaphijgbebhdlaaGreatDoorZ00UtfPlain
section
/- Rows of bytes of the call's own: small words; string(b). -/
namespace Go.Proofs.YtaphijgbebhdlaaGreatDoor.Utf
open Go.RowKit
set_option linter.unusedSimpArgs false
set_option linter.unusedVariables false

theorem Tryz.info5 : (Tryz.prog.info? 5).map (fun i => (i.zero, i.size, i.bytes)) = some (some (.int .u8 0), 1, 1) := by kernel_rfl

theorem news_cells (w : World) (l : List Int) (t : TypeId) : ∀ j u, (l.map (Value.int .u8))[j]? = some u → (w.alloc (.cells (l.map (Value.int .u8)).toArray t)).cell? ((⟨w.heap.size, 0, none⟩ : Addr).add j) = some u := by
  intro j u hj
  have e : (⟨w.heap.size, 0, none⟩ : Addr).add j = ⟨w.heap.size, j, none⟩ := by unfold Addr.add; split <;> simp_all
  rw [e, cell_of_row _ w.heap.size j (l.map (Value.int .u8)).toArray t (0, 0) (heap_alloc_new w _)]
  simpa using hj
theorem news_one (l : List Int) : ∀ u ∈ l.map (Value.int .u8), u.oneCell' = true := by
  intro u hu
  obtain ⟨n, _, rfl⟩ := List.mem_map.1 hu
  rfl

theorem step {w wr w1 : World} {e : TypeId} {u v' : Value} {bs news : List Int} {o : Obj} {m : Nat} (hown : wr.ownsRow w.heap.size e 1 u bs.length (bs.map (Value.int .u8))) (hbe : Below w.heap.size w wr)
    (hown' : w1.ownsRow w.heap.size e 1 v' (bs.length + m) (bs.map (Value.int .u8) ++ news.map (Value.int .u8))) (hgrow : (wr.alloc o).grownBy w1 u.ownBlock) (hm : news.length = m) :
    w1.ownsRow w.heap.size e 1 v' (bs ++ news).length ((bs ++ news).map (Value.int .u8)) ∧ Below w.heap.size w w1 := by
  subst hm
  refine ⟨by rw [List.length_append, List.map_append]; exact hown', ?_⟩
  have hs := hbe.size
  exact (hbe.alloc hs o).grown hgrow (by simp; omega) (fun k hk => (hown.lt k hk).1)


theorem conv_own {w : World} {base n : Nat} {v : Value} {xs : List Int} (h : w.ownsRow base 5 1 v n (xs.map (Value.int .u8))) :
    (convert 65 9 v).run Tryz.prog w = .ok (.string (strOfNums xs)) w := by
  obtain ⟨hl, h⟩ := h
  rcases h with ⟨rfl, rfl⟩ | ⟨g, cap, cur, rfl, hb, hg, hn, hm, hs, ht⟩
  · have e : xs = [] := by simpa using hl
    subst e
    exact run_convert_bytes_nil w 65 5 Tryz.underlying65 Tryz.underlying5 0 0 9 Tryz.underlying9
  · have hx : xs.length = n := by simpa using hl
    refine run_convert_bytes_arg w 65 5 Tryz.underlying65 Tryz.underlying5 g 0 n cap xs hx ?_ 9 Tryz.underlying9
    intro i hi
    rw [Nat.zero_add, cell_of_row w g i cur 5 (0, 0) hg]
    have h1 : (cur.toList.take (n * 1))[i]? = some (.int .u8 (xs.getD i 0)) := by
      rw [ht, List.getElem?_map, List.getD_eq_getElem?_getD, List.getElem?_eq_getElem (by omega)]; rfl
    rw [List.getElem?_take, if_pos (by omega)] at h1
    simpa using h1


end Go.Proofs.YtaphijgbebhdlaaGreatDoor.Utf
end

section
/- utf.areSigns, utf.appendSigns, utf.Encode, by their contracts: over a row of numbers that lies anywhere in memory. -/
namespace Go.Proofs.YtaphijgbebhdlaaGreatDoor.Utf
open Go.RowKit
set_option linter.unusedSimpArgs false
set_option linter.unusedVariables false

/-- a slice of ints that holds the numbers zs -/
def Ints (w : World) (a : Option Addr) (len : Nat) (zs : List Int) : Prop :=
  len = zs.length ∧ (0 < len → ∃ b off, a = some ⟨b, off, none⟩ ∧ b < w.heap.size ∧ ∀ i, i < len → w.cell? ⟨b, off + i, none⟩ = some (.int .i64 (zs.getD i 0)))

theorem add_plain (b off i : Nat) : (⟨b, off, none⟩ : Addr).add i = ⟨b, off + i, none⟩ := by unfold Addr.add; split <;> simp_all

theorem areSigns_any (a : Option Addr) (len cap : Nat) (zs : List Int) (w : World) (hz : Ints w a len zs) (hl : len ≤ 17592186044416) :
    Calls Tryz.prog 147 #[.slice a len cap] w fun e w' => e = .returned (.bool (allS zs)) ∧ w = w' := by
  have HZ : Hid (Ints w a len zs) := hz
  have HL : Hid (len = zs.length) := hz.1
  clear hz
  go_enter Tryz.func147, Tryz.ntmps147
  go_wp2
  go_loop [7] (fun i => ∃ k : Nat, k ≤ len ∧ i = .int .i64 k ∧ allS (zs.take k) = true) (fun i => len - (intOf i).toNat)
  case atStart => exact ⟨0, Nat.zero_le _, rfl, rfl⟩
  case round =>
    obtain ⟨k, hk, rfl, ha⟩ := hrel
    have HA : Hid (allS (zs.take k) = true) := ha
    clear ha
    by_cases hlt : k < len
    · obtain ⟨b, off, rfl, hb, hc⟩ := HZ.out.2 (by omega)
      have hck := hc k hlt
      obtain ⟨n, hn⟩ : ∃ n, n = zs.getD k 0 := ⟨_, rfl⟩
      rw [← hn] at hck
      have HN : Hid (n = zs.getD k 0) := hn
      clear hn hc
      cases hs : sgn n
      · go_wp2_with (first | (go_at_call 123; refine (isSign_any _ _).mono ?_; rintro e w' ⟨rfl, rfl⟩))
        go_ret
        exact ⟨by rw [allS_false zs k (by rw [← HL.out]; exact hlt) (by rw [← HN.out]; exact hs)]; rfl, rfl⟩
      · go_wp2_with (first | (go_at_call 123; refine (isSign_any _ _).mono ?_; rintro e w' ⟨rfl, rfl⟩))
        go_round
        case rel => exact ⟨k + 1, by omega, by go_num, by rw [allS_take zs k (by rw [← HL.out]; exact hlt), HA.out, ← HN.out, hs]; rfl⟩
        case measure => simp [intOf]; omega
    · go_wp2
      go_ret
      have e : zs.take k = zs := List.take_of_length_le (by rw [← HL.out]; omega)
      exact ⟨by rw [← e, HA.out]; rfl, rfl⟩

set_option maxHeartbeats 1000000 in
theorem appendSigns_any (a : Option Addr) (len cap : Nat) (zs : List Int) (w : World) (hz : Ints w a len zs) (hl : len ≤ 17592186044416) (hs : allS zs = true) :
    Calls Tryz.prog 148 #[.slice none 0 0, .slice a len cap] w fun e w' => ∃ v, e = .returned v ∧ w'.ownsRow w.heap.size 5 1 v (bytes zs).length ((bytes zs).map (Value.int .u8)) ∧ Below w.heap.size w w' := by
  have HZ : Hid (Ints w a len zs) := hz
  have HL : Hid (len = zs.length) := hz.1
  have HS : Hid (allS zs = true) := hs
  clear hz hs
  obtain ⟨i0, hi, hz0, hz1, hz2⟩ := info_parts Tryz.info5
  go_enter Tryz.func148, Tryz.ntmps148
  go_wp2
  go_loopw [0, 9] (fun v i wr => ∃ k : Nat, k ≤ len ∧ i = .int .i64 k ∧ wr.ownsRow w.heap.size 5 1 v (bytes (zs.take k)).length ((bytes (zs.take k)).map (Value.int .u8)) ∧ Below w.heap.size w wr) (fun _ i _ => len - (intOf i).toNat)
  case atStart => exact ⟨0, Nat.zero_le _, rfl, World.ownsRow_nil _ _ _ _, Below.refl _ _⟩
  case round =>
    obtain ⟨k, hk, rfl, hown, hbe⟩ := hrel
    by_cases hlt : k < len
    · obtain ⟨b, off, rfl, hb, hc⟩ := HZ.out.2 (by omega)
      have hck := (hbe.cell (p := ⟨b, off + k, none⟩) hb).trans (hc k hlt)
      have hkz : k < zs.length := by rw [← HL.out]; exact hlt
      have hbl := bytes_len (zs.take k)
      have hbl2 : (bytes (zs.take k)).length ≤ 4 * k := by have := List.length_take_le k zs; omega
      have HBT : Hid (bytes (zs.take (k + 1)) = bytes (zs.take k) ++ byt (zs.getD k 0)) := bytes_take zs k hkz
      obtain ⟨n, hn⟩ : ∃ n, n = zs.getD k 0 := ⟨_, rfl⟩
      have hsg : sgn n = true := by
        cases hf : sgn n
        · have := allS_false zs k hkz (by rw [← hn]; exact hf)
          rw [HS.out] at this; cases this
        · rfl
      have hn0 : 0 ≤ n ∧ n ≤ 1114111 := by
        unfold sgn inR at hsg
        simp at hsg
        omega
      obtain ⟨hn0, hn1⟩ := hn0
      rw [← hn] at hck HBT
      clear hn hc hsg hkz hbl HL HZ HS
      generalize bytes (zs.take k) = bs at *
      have r0 : restV n 0 = 128 + n % 64 := rfl
      have r1 : restV n 1 = 128 + n / 64 % 64 := rfl
      have r2 : restV n 2 = 128 + n / 4096 % 64 := rfl
      by_cases c1 : n < 128
      · have hw1 : wid n = 1 := by unfold wid; rw [if_pos c1]
        have HBY : Hid (byt n = [n]) := by unfold byt Hid; rw [if_pos c1]
        go_wp2_with (first | (go_at_call 124; refine (width_any _ _).mono ?_; rintro e w' ⟨rfl, rfl⟩) | (at_builtin; refine wpList_append_own _ rfl _ _ 65 rfl w.heap.size 5 i0 (.int .u8 0) 1 1 Tryz.underlying65 hi hz0 hz1 hz2 rfl (by decide) _ _ _ rfl (hown.alloc _) ⟨wr.heap.size, 0, none⟩ 1 1 ([n].map (Value.int .u8)) rfl rfl (news_cells _ _ _) (news_one _) ?_ ?_ ?_ ?_))
        · unfold maxLen; omega
        · omega
        · have := hbe.size; simp; omega
        intro v' w1 hown' hgrow _
        obtain ⟨R1, R2⟩ := step (news := [n]) hown hbe hown' hgrow rfl
        clear hown' hgrow hown hbe hck hw1
        go_wp2
        go_roundw
        case rel => exact ⟨k + 1, by omega, by go_num, by rw [HBT.out, HBY.out]; exact R1, R2⟩
        case measure => simp [intOf]; omega
      by_cases c2 : n < 2048
      · have hw2 : wid n = 2 := by unfold wid; rw [if_neg c1, if_pos c2]
        have HBY : Hid (byt n = [192 + n / 64, 128 + n % 64]) := by unfold byt Hid; rw [if_neg c1, if_pos c2]
        go_wp2_with (first | (go_at_call 124; refine (width_any _ _).mono ?_; rintro e w' ⟨rfl, rfl⟩) | (go_at_call 158; refine (rest_any n _ hn0 hn1 (by decide) (by decide) _).mono ?_; rintro e w' ⟨rfl, rfl⟩) | (at_builtin; refine wpList_append_own _ rfl _ _ 65 rfl w.heap.size 5 i0 (.int .u8 0) 1 1 Tryz.underlying65 hi hz0 hz1 hz2 rfl (by decide) _ _ _ rfl (hown.alloc _) ⟨wr.heap.size, 0, none⟩ 2 2 ([192 + n / 64, 128 + n % 64].map (Value.int .u8)) rfl rfl (news_cells _ _ _) (news_one _) ?_ ?_ ?_ ?_))
        · unfold maxLen; omega
        · omega
        · have := hbe.size; simp; omega
        intro v' w1 hown' hgrow _
        obtain ⟨R1, R2⟩ := step (news := [192 + n / 64, 128 + n % 64]) hown hbe hown' hgrow rfl
        clear hown' hgrow hown hbe hck r0 r1 r2 hw2
        go_wp2
        go_roundw
        case rel => exact ⟨k + 1, by omega, by go_num, by rw [HBT.out, HBY.out]; exact R1, R2⟩
        case measure => simp [intOf]; omega
      by_cases c3 : n < 65536
      · have hw2 : wid n = 3 := by unfold wid; rw [if_neg c1, if_neg c2, if_pos c3]
        have HBY : Hid (byt n = [224 + n / 4096, 128 + n / 64 % 64, 128 + n % 64]) := by unfold byt Hid; rw [if_neg c1, if_neg c2, if_pos c3]
        go_wp2_with (first | (go_at_call 124; refine (width_any _ _).mono ?_; rintro e w' ⟨rfl, rfl⟩) | (go_at_call 158; refine (rest_any n _ hn0 hn1 (by decide) (by decide) _).mono ?_; rintro e w' ⟨rfl, rfl⟩) | (at_builtin; refine wpList_append_own _ rfl _ _ 65 rfl w.heap.size 5 i0 (.int .u8 0) 1 1 Tryz.underlying65 hi hz0 hz1 hz2 rfl (by decide) _ _ _ rfl (hown.alloc _) ⟨wr.heap.size, 0, none⟩ 3 3 ([224 + n / 4096, 128 + n / 64 % 64, 128 + n % 64].map (Value.int .u8)) rfl rfl (news_cells _ _ _) (news_one _) ?_ ?_ ?_ ?_))
        · unfold maxLen; omega
        · omega
        · have := hbe.size; simp; omega
        intro v' w1 hown' hgrow _
        obtain ⟨R1, R2⟩ := step (news := [224 + n / 4096, 128 + n / 64 % 64, 128 + n % 64]) hown hbe hown' hgrow rfl
        clear hown' hgrow hown hbe hck r0 r1 r2 hw2
        go_wp2
        go_roundw
        case rel => exact ⟨k + 1, by omega, by go_num, by rw [HBT.out, HBY.out]; exact R1, R2⟩
        case measure => simp [intOf]; omega
      · have hw2 : wid n = 4 := by unfold wid; rw [if_neg c1, if_neg c2, if_neg c3]
        have HBY : Hid (byt n = [240 + n / 262144, 128 + n / 4096 % 64, 128 + n / 64 % 64, 128 + n % 64]) := by unfold byt Hid; rw [if_neg c1, if_neg c2, if_neg c3]
        go_wp2_with (first | (go_at_call 124; refine (width_any _ _).mono ?_; rintro e w' ⟨rfl, rfl⟩) | (go_at_call 158; refine (rest_any n _ hn0 hn1 (by decide) (by decide) _).mono ?_; rintro e w' ⟨rfl, rfl⟩) | (at_builtin; refine wpList_append_own _ rfl _ _ 65 rfl w.heap.size 5 i0 (.int .u8 0) 1 1 Tryz.underlying65 hi hz0 hz1 hz2 rfl (by decide) _ _ _ rfl (hown.alloc _) ⟨wr.heap.size, 0, none⟩ 4 4 ([240 + n / 262144, 128 + n / 4096 % 64, 128 + n / 64 % 64, 128 + n % 64].map (Value.int .u8)) rfl rfl (news_cells _ _ _) (news_one _) ?_ ?_ ?_ ?_))
        · unfold maxLen; omega
        · omega
        · have := hbe.size; simp; omega
        intro v' w1 hown' hgrow _
        obtain ⟨R1, R2⟩ := step (news := [240 + n / 262144, 128 + n / 4096 % 64, 128 + n / 64 % 64, 128 + n % 64]) hown hbe hown' hgrow rfl
        clear hown' hgrow hown hbe hck r0 r1 r2 hw2
        go_wp2
        go_roundw
        case rel => exact ⟨k + 1, by omega, by go_num, by rw [HBT.out, HBY.out]; exact R1, R2⟩
        case measure => simp [intOf]; omega
    · have e : zs.take k = zs := List.take_of_length_le (by rw [← HL.out]; omega)
      have HT : Hid (zs.take k = zs) := e
      clear e
      go_wp2
      go_ret
      exact ⟨_, rfl, by rw [← HT.out]; exact hown, hbe⟩

end Go.Proofs.YtaphijgbebhdlaaGreatDoor.Utf
end

section
/- utf.Decode, by its contract. -/
namespace Go.Proofs.YtaphijgbebhdlaaGreatDoor.Utf
open Go.RowKit
set_option linter.unusedSimpArgs false
set_option linter.unusedVariables false
set_option maxRecDepth 100000

theorem Tryz.info3 : (Tryz.prog.info? 3).map (fun i => (i.zero, i.size, i.bytes)) = some (some (.int .i64 0), 1, 8) := by kernel_rfl
theorem new_cells (w : World) (n : Int) (t : TypeId) : ∀ j u, ([Value.int .i64 n])[j]? = some u → (w.alloc (.cells #[Value.int .i64 n] t)).cell? ((⟨w.heap.size, 0, none⟩ : Addr).add j) = some u := by
  intro j u hj
  have e : (⟨w.heap.size, 0, none⟩ : Addr).add j = ⟨w.heap.size, j, none⟩ := by unfold Addr.add; split <;> simp_all
  rw [e, cell_of_row _ w.heap.size j #[Value.int .i64 n] t (0, 0) (heap_alloc_new w _)]
  simpa using hj
theorem new_one (n : Int) : ∀ u ∈ [Value.int .i64 n], u.oneCell' = true := by
  intro u hu
  simp at hu; subst hu; rfl

/-- an append's step, one number more -/
theorem step1 {B : Nat} {w wr w1 : World} {e : TypeId} {u v' : Value} {xs : List Int} {n : Int} {o : Obj} (hown : wr.ownsRow B e 1 u xs.length (xs.map (Value.int .i64))) (hbe : Below B w wr) (hB : B ≤ wr.heap.size)
    (hown' : w1.ownsRow B e 1 v' (xs.length + 1) (xs.map (Value.int .i64) ++ [Value.int .i64 n])) (hgrow : (wr.alloc o).grownBy w1 u.ownBlock) :
    w1.ownsRow B e 1 v' (xs ++ [n]).length ((xs ++ [n]).map (Value.int .i64)) ∧ Below B w w1 ∧ B ≤ w1.heap.size := by
  refine ⟨by rw [List.length_append, List.map_append]; exact hown', ?_, ?_⟩
  · exact (hbe.alloc hB o).grown hgrow (by simp; omega) (fun k hk => (hown.lt k hk).1)
  · have := hgrow.size; simp at this; omega

theorem dec_split {l : List UInt8} {p : Nat} {xs : List Int} (h : dec l = (xs ++ (dec (l.drop p)).1, (dec (l.drop p)).2.map (· + p))) (hne : l.drop p ≠ []) (hn : ¬ (fst (l.drop p)).1 < 0) :
    dec l = ((xs ++ [(fst (l.drop p)).1]) ++ (dec (l.drop (p + fk (l.drop p)))).1, (dec (l.drop (p + fk (l.drop p)))).2.map (· + (p + fk (l.drop p)))) := by
  have hx := dec_next _ hne hn
  rw [List.drop_drop] at hx
  rw [h, hx]
  simp [Option.map_map]
  cases (dec (l.drop (p + fk (l.drop p)))).2 with
  | none => rfl
  | some q => simp; omega

def decXs (l : List UInt8) : List Int := if (dec l).2 = none then (dec l).1 else []
/-- Decode's answer: the signs, in a row of the call's own, and no fault; or none, and the place -/
def DecRes (l : List UInt8) (w : World) (e : Ending) (w' : World) : Prop :=
  ∃ v, e = .returned (.tuple #[v, .agg #[.int .i64 (why (dec l).2), .int .i64 (pos (dec l).2)]]) ∧ w'.ownsRow w.heap.size 3 1 v (decXs l).length ((decXs l).map (Value.int .i64)) ∧ Below w.heap.size w w'
theorem ownsRow_lower {w : World} {B B' : Nat} {e : TypeId} {k n : Nat} {v : Value} {xs : List Value} (h : w.ownsRow B e k v n xs) (hb : B' ≤ B) : w.ownsRow B' e k v n xs := by
  obtain ⟨h1, h2⟩ := h
  refine ⟨h1, ?_⟩
  rcases h2 with h2 | ⟨g, cap, cur, hv, hg, rest⟩
  · exact .inl h2
  · exact .inr ⟨g, cap, cur, hv, Nat.le_trans hb hg, rest⟩

set_option maxHeartbeats 1000000 in
theorem decode_any (s : ByteArray) (w : World) (hs : s.size ≤ 140737488355328) (hx : (dec s.data.toList).1.length ≤ 17592186044416) : Calls Tryz.prog 86 #[.string s] w fun e w' => DecRes s.data.toList w e w' := by
  have hs' : s.size ≤ maxLen := by unfold maxLen; omega
  have HX : Hid ((dec s.data.toList).1.length ≤ 17592186044416) := hx
  clear hx
  obtain ⟨i0, hi, hz0, hz1, hz2⟩ := info_parts Tryz.info3
  go_enter Tryz.func86, Tryz.ntmps86
  go_wp2
  go_loopw [4, 5] (fun v i wr => ∃ (p : Nat) (xs : List Int), p ≤ s.size ∧ xs.length ≤ p ∧ i = .int .i64 p ∧ wr.ownsRow (w.heap.size + 1) 3 1 v xs.length (xs.map (Value.int .i64)) ∧ dec s.data.toList = (xs ++ (dec (s.data.toList.drop p)).1, (dec (s.data.toList.drop p)).2.map (· + p)) ∧
      Below (w.heap.size + 1) (w.alloc (.cells #[.int .i64 0, .int .i64 0] 141)) wr ∧ w.heap.size + 1 ≤ wr.heap.size) (fun _ i _ => s.size - (intOf i).toNat)
  case atStart => exact ⟨0, [], Nat.zero_le _, Nat.le_refl _, rfl, World.ownsRow_nil _ _ _ _, by simp, Below.refl _ _, by simp⟩
  case round =>
    obtain ⟨p, xs, hp, hxl, rfl, hown, hd, hbe, hsz⟩ := hrel
    have HD : Hid (dec s.data.toList = (xs ++ (dec (s.data.toList.drop p)).1, (dec (s.data.toList.drop p)).2.map (· + p))) := hd
    clear hd
    have hc0 : wr.cell? ⟨w.heap.size, 0, none⟩ = some (.int .i64 0) := (hbe.cell (p := ⟨w.heap.size, 0, none⟩) (by simp)).trans (by rw [cell_of_row _ w.heap.size 0 _ _ (0, 0) (heap_alloc_new w _)]; rfl)
    have hc1 : wr.cell? ⟨w.heap.size, 1, none⟩ = some (.int .i64 0) := (hbe.cell (p := ⟨w.heap.size, 1, none⟩) (by simp)).trans (by rw [cell_of_row _ w.heap.size 1 _ _ (0, 0) (heap_alloc_new w _)]; rfl)
    have hf0 : wr.frozen? ⟨w.heap.size, 0, none⟩ = false := (hbe.frozen (p := ⟨w.heap.size, 0, none⟩) (by simp)).trans (by simp)
    have hf1 : wr.frozen? ⟨w.heap.size, 1, none⟩ = false := (hbe.frozen (p := ⟨w.heap.size, 1, none⟩) (by simp)).trans (by simp)
    by_cases hlt : p < s.size
    · have hne := drop_ne s p hlt
      have hf := fk_pos _ hne
      rw [List.length_drop, len_data] at hf
      obtain ⟨f1, f2, f3, f4⟩ := hf
      have hb0 : 0 ≤ (fst (s.data.toList.drop p)).2 := by omega
      have hb4 : (fst (s.data.toList.drop p)).2 ≤ 4 := by omega
      have hb5 : (p : Int) + (fst (s.data.toList.drop p)).2 ≤ s.size := by omega
      have H4 : Hid (((fk (s.data.toList.drop p) : Nat) : Int) = (fst (s.data.toList.drop p)).2) := f4
      clear f4
      by_cases hn : (fst (s.data.toList.drop p)).1 < 0
      · have HB : Hid ((dec s.data.toList).2 = some p) := by
          have h1 := HD.out
          rw [dec_bad _ hne hn] at h1
          rw [h1]; simp [Hid]
        clear hne
        go_wp2_with (first | (go_at_call 102; refine (firstAt_any _ _ _ hs').mono ?_; rintro e w' ⟨rfl, rfl⟩))
        refine bodyPost_ret (v := .tuple #[.slice none 0 0, .agg #[.int .i64 8, .int .i64 p]]) (by simp [results, Tryz.results86, go_sem, hc0, hc1]) rfl ?_
        refine ⟨.slice none 0 0, by rw [HB.out]; rfl, ?_, ?_⟩
        · have e : decXs s.data.toList = [] := by unfold decXs; rw [HB.out]; rfl
          rw [e]; exact World.ownsRow_nil _ _ _ _
        exact ((((Below.refl _ _).alloc (Nat.le_refl _) _).trans (hbe.mono (Nat.le_succ _))).setCell (Nat.le_refl _) _).setCell (Nat.le_refl _) _
      · have HN := dec_split HD.out hne hn
        have HN : Hid (dec s.data.toList = ((xs ++ [(fst (s.data.toList.drop p)).1]) ++ (dec (s.data.toList.drop (p + fk (s.data.toList.drop p)))).1, (dec (s.data.toList.drop (p + fk (s.data.toList.drop p)))).2.map (· + (p + fk (s.data.toList.drop p))))) := HN
        have hxx : xs.length + 1 ≤ 17592186044416 := by
          have h1 := HX.out
          rw [HN.out] at h1
          simp only [List.length_append, List.length_cons, List.length_nil] at h1
          omega
        clear HD hne
        go_wp2_with (first | (go_at_call 102; refine (firstAt_any _ _ _ hs').mono ?_; rintro e w' ⟨rfl, rfl⟩) | (at_builtin; refine wpList_append_own _ rfl _ _ 45 rfl (w.heap.size + 1) 3 i0 (.int .i64 0) 1 8 Tryz.underlying45 hi hz0 hz1 hz2 rfl (by decide) _ _ _ rfl (hown.alloc _) ⟨wr.heap.size, 0, none⟩ 1 1 [Value.int .i64 (fst (s.data.toList.drop p)).1] rfl rfl (new_cells _ _ _) (new_one _) ?_ ?_ ?_ ?_))
        · unfold maxLen; omega
        · omega
        · simp; omega
        intro v' w1 hown' hgrow _
        have R := step1 hown hbe hsz hown' hgrow
        obtain ⟨R1, R2, R3⟩ := R
        clear hown' hgrow hown hbe hc0 hc1 hf0 hf1
        go_wp2
        have h4 := H4.out
        go_roundw
        case rel => exact ⟨p + fk (s.data.toList.drop p), xs ++ [(fst (s.data.toList.drop p)).1], by omega, by simp; omega, by rw [← H4.out]; go_num, R1, HN.out, R2, R3⟩
        case measure => simp [intOf]; omega
    · have HB : Hid (dec s.data.toList = (xs, none)) := by
        have h1 := HD.out
        rw [List.drop_of_length_le (by rw [len_data]; omega), dec_nil] at h1
        simp at h1; exact h1
      clear HD
      go_wp2
      refine bodyPost_ret (v := .tuple #[u4, .agg #[.int .i64 0, .int .i64 0]]) (by simp [results, Tryz.results86, go_sem, hc0, hc1]) rfl ?_
      refine ⟨u4, by rw [HB.out]; rfl, ?_, ?_⟩
      · have e : decXs s.data.toList = xs := by unfold decXs; rw [HB.out]; rfl
        rw [e]
        exact ownsRow_lower (ownsRow_setCell_below (ownsRow_setCell_below hown (Nat.lt_succ_self _) _) (Nat.lt_succ_self _) _) (Nat.le_succ _)
      · exact ((((Below.refl _ _).alloc (Nat.le_refl _) _).trans (hbe.mono (Nat.le_succ _))).setCell (Nat.le_refl _) _).setCell (Nat.le_refl _) _

/-- what the call owns reads as a row of ints -/
theorem ints_of_own {w : World} {base n : Nat} {v : Value} {zs : List Int} (h : w.ownsRow base 3 1 v n (zs.map (Value.int .i64))) : ∃ a cap, v = .slice a n cap ∧ Ints w a n zs := by
  obtain ⟨hl, h⟩ := h
  have hn : n = zs.length := by simpa using hl.symm
  rcases h with ⟨rfl, rfl⟩ | ⟨g, cap, cur, rfl, hb, hg, hc, hm, hs, ht⟩
  · exact ⟨_, _, rfl, hn, fun h => absurd h (by decide)⟩
  · refine ⟨_, _, rfl, hn, fun _ => ⟨g, 0, rfl, (Array.getElem?_eq_some_iff.1 hg).1, ?_⟩⟩
    intro i hi
    rw [Nat.zero_add, cell_of_row w g i cur 3 (0, 0) hg]
    have h1 : (cur.toList.take (n * 1))[i]? = some (.int .i64 (zs.getD i 0)) := by
      rw [ht, List.getElem?_map, List.getD_eq_getElem?_getD, List.getElem?_eq_getElem (by omega)]; rfl
    rw [List.getElem?_take, if_pos (by omega)] at h1
    simpa using h1
/-- a row of ints below B is there in a later world -/
theorem Ints.later {w w' : World} {a : Option Addr} {len : Nat} {zs : List Int} (h : Ints w a len zs) {B : Nat} (hb : Below B w w') (hB : w.heap.size ≤ B) : Ints w' a len zs := by
  refine ⟨h.1, fun hp => ?_⟩
  obtain ⟨b, off, ha, hlt, hc⟩ := h.2 hp
  exact ⟨b, off, ha, Nat.lt_of_lt_of_le hlt hb.size, fun i hi => (hb.cell (p := ⟨b, off + i, none⟩) (Nat.lt_of_lt_of_le hlt hB)).trans (hc i hi)⟩

theorem own_later {w w' : World} {B : Nat} {e : TypeId} {k n : Nat} {v : Value} {xs : List Value} (h : w.ownsRow B e k v n xs) (hb : Below w.heap.size w w') : w'.ownsRow B e k v n xs := by
  obtain ⟨h1, h2⟩ := h
  refine ⟨h1, ?_⟩
  rcases h2 with h2 | ⟨g, cap, cur, hv, hg, hh, rest⟩
  · exact .inl h2
  · refine .inr ⟨g, cap, cur, hv, hg, ?_, rest⟩
    rw [hb.block g (Array.getElem?_eq_some_iff.1 hh).1]
    exact hh

end Go.Proofs.YtaphijgbebhdlaaGreatDoor.Utf
end
