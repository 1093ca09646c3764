/- Several texts as one: LayLarge, LayAll. -/
import Derived.Test.YtaphijgbebhdlaaGreatDoorV13GraphDif
import Derived.Test.YtaphijgbebhdlaaGreatDoorV23LayLd
import Derived.Test.YtaphijgbebhdlaaGreatDoorV22GraphPlc2
section
/- The law's large, by its contract. -/
namespace Go.Proofs.YtaphijgbebhdlaaGreatDoor.Grp
open Utf Rws Pln Flw
open Go.RowKit
set_option linter.unusedSimpArgs false
set_option linter.unusedVariables false
set_option maxRecDepth 100000
set_option maxHeartbeats 4000000

end Go.Proofs.YtaphijgbebhdlaaGreatDoor.Grp
end

section
/- What a graph that may be is laid to: its tree's size, short texts, and what it is composed to. -/
namespace Go.Proofs.YtaphijgbebhdlaaGreatDoor.Grp
open Utf Rws Pln Flw
set_option linter.unusedSimpArgs false
set_option linter.unusedVariables false

theorem ls_no {ns : List Nd} (h : ∀ n ∈ ns, ral n.kind n.text [] n.kids.length = true) (a : Nat) (hz : lsN ns a = 0) : kd ns a = [] := by
  unfold kd
  by_cases ha : a < ns.length
  · have h1 := h _ (mem_getD ha)
    unfold lsN at hz
    unfold ral at h1
    rw [Bool.and_eq_true, Bool.and_eq_true] at h1
    have h2 := h1.2
    unfold rct at h2
    generalize ns.getD a nd0 = n at *
    have h56 : ¬ (n.kind = 5 ∨ n.kind = 6) := fun q => by rw [if_pos q] at hz; omega
    rw [if_neg (fun q => h56 (.inl q)), if_neg (fun q => h56 (.inr q))] at h2
    have := of_decide_eq_true h2
    rw [List.length_eq_zero_iff.1 this]
    rfl
  · rw [List.getD_eq_getElem?_getD, List.getElem?_eq_none (by omega)]
    rfl
/-- of a graph whose tree is made -/
structure LyOk (g : Gr) (D : Nat) : Prop where
  rg : rgG g = true
  sz : (lyT g.nodes (nmG g.nodes g.root.toNat) (g.nodes.length + 1) g.root.toNat []).2.2.length = szG g.nodes g.root.toNat
  s4 : szG g.nodes g.root.toNat ≤ 4096
  right : rgh D (lyG g) = true
  err : (cmR D (lyG g)).2.1 = 0
  cn : (cmR D (lyG g)).2.2.ns = cnN g.nodes (odG g.nodes g.root.toNat)
  an1 : (anT D (lyG g)).1 = (shL g.nodes g.root.toNat).length
  an2 : (anT D (lyG g)).2 + (odG g.nodes g.root.toNat).length = szG g.nodes g.root.toNat
  tz : tsz D (lyG g) = szG g.nodes g.root.toNat
theorem LyOk.ok {g : Gr} {D : Nat} (h : LyOk g D) : cmOk D (lyG g) = true := by
  unfold cmOk
  rw [h.right, h.err]
  rfl
end Go.Proofs.YtaphijgbebhdlaaGreatDoor.Grp
end
