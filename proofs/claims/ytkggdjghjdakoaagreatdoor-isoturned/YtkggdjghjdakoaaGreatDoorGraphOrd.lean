/- A region whose operations come in any order: where all that is done ahead of a last one only reads, the places reached are walked once each. -/
import Derived.OrdersIn
import Derived.RegionIn
namespace Go.Proofs.YtkggdjghjdakoaaGreatDoor.Grp
open Go
set_option linter.unusedSimpArgs false
set_option linter.unusedVariables false

/-- what was done so far leads on within St, each operation behind those of dp -/
def chk (ops : Array Oper) (N : Nat) (St : List (List Bool)) (fin : List Bool) (dp : List (List Nat)) : Bool :=
  decide (fin.count true < N) && St.all fun s => s.length == N && decide (s.count true ≤ fin.count true) && (s == fin || (!(Region.ready .any ops s.toArray).isEmpty && (Region.ready .any ops s.toArray).all fun i =>
    St.contains (s.set i true) && (s.set i true).count true == s.count true + 1 && (dp.getD i []).all (fun d => s.getD d false) && decide (i < dp.length)))
theorem any_walk {F : Fence} {n : Nat} {P : Program} {ops : Array Oper} {Q : Exit → Act → World → Prop} {N : Nat} {St : List (List Bool)} {fin : List Bool} {dp : List (List Nat)} (hc : chk ops N St fin dp = true) (w : World) (fr : List Bool → Act)
    (hS : ∀ s, s.length = N → ∀ i, i < dp.length → (∀ d ∈ dp.getD i [], s.getD d false = true) → ∀ K : Act → World → Prop, K (fr (s.set i true)) w → wpOpIn F n P ops Q i K (fr s) w)
    (hF : ∀ fuel, fuel + fin.count true = N → wpAnyIn F n P .any ops Q fuel fin.toArray (fr fin) w) :
    ∀ fuel s, s ∈ St → fuel + s.count true = N → wpAnyIn F n P .any ops Q fuel s.toArray (fr s) w := by
  unfold chk at hc
  rw [Bool.and_eq_true, decide_eq_true_eq, List.all_eq_true] at hc
  obtain ⟨hN, hc⟩ := hc
  intro fuel
  induction fuel with
  | zero =>
    intro s hs he
    have h := hc s hs
    rw [Bool.and_eq_true, Bool.and_eq_true, decide_eq_true_eq] at h
    omega
  | succ fuel ih =>
    intro s hs he
    have h := hc s hs
    rw [Bool.and_eq_true, Bool.and_eq_true, decide_eq_true_eq, Bool.or_eq_true, beq_iff_eq, beq_iff_eq] at h
    obtain ⟨⟨h1, h2⟩, h3⟩ := h
    rcases h3 with rfl | h3
    · exact hF _ he
    · rw [Bool.and_eq_true, List.all_eq_true] at h3
      obtain ⟨h4, h5⟩ := h3
      refine ⟨fun e => ?_, fun i hi => ?_⟩
      · rw [e] at h4; cases h4
      · have h6 := h5 i hi
        rw [Bool.and_eq_true, Bool.and_eq_true, Bool.and_eq_true, List.contains_iff_mem, beq_iff_eq, List.all_eq_true, decide_eq_true_eq] at h6
        obtain ⟨⟨⟨h7, h8⟩, h9⟩, h10⟩ := h6
        refine hS s h1 i h10 h9 _ ?_
        rw [List.setIfInBounds_toArray]
        exact ih _ h7 (by omega)
theorem wpOpIn_at {F : Fence} {n : Nat} {P : Program} {ops : Array Oper} {Q : Exit → Act → World → Prop} {i : Nat} {o : Oper} {K : Act → World → Prop} {a : Act} {w : World} (ho : ops[i]? = some o)
    (h : if Region.wanted o (yielded ops a.tmps) = true then o.wpIn F n P a w K Q else (∀ f, o.about P w a.eval = some f → F.fn f) ∧ K (a.put o.dst undef) w) : wpOpIn F n P ops Q i K a w := by
  unfold wpOpIn
  rw [ho]
  exact h
/-- a slot that is filled once its operation is done -/
def slt (b : Bool) (v : Value) : Value := if b = true then v else undef
theorem slt_t (v : Value) : slt true v = v := rfl
theorem slt_f (v : Value) : slt false v = undef := rfl
end Go.Proofs.YtkggdjghjdakoaaGreatDoor.Grp
