/-
  Contracts of what package stairref1 says on the mask of rules and on whether a bank fits, where the rules and the bank are right: what each returns, and that memory that was there stays as it was.
-/
import Derived.Test.YtojdaifnljghkabGreatDoorQRuleRef
import Derived.WalkSmall
namespace Go.Proofs.YtojdaifnljghkabGreatDoor.M
theorem pow_step (j : Nat) : (2 : Int) * 2 ^ j = 2 ^ (j + 1) := by rw [Int.pow_succ, Int.mul_comm]
theorem pow_small {j : Nat} (h : j ≤ 7) : (1 : Int) ≤ 2 ^ j ∧ (2 : Int) ^ j ≤ 128 := by
  have : ∀ i : Fin 8, (1 : Int) ≤ 2 ^ i.val ∧ (2 : Int) ^ i.val ≤ 128 := by decide +kernel
  exact this ⟨j, by omega⟩
theorem rules_reg {l : List (Int × Value × List Int)} (h : rulesE (rulesL l) = 0) {k : Nat} {r : Int} {v : Value} {g : List Int} (hc : l[k]? = some (r, v, g)) : 0 ≤ r ∧ r < 8 := by
  obtain ⟨h1, _⟩ := rules_regs _ _ (rulesE_zero h).2
  exact isReg_iff.1 (h1 (r, g) (List.mem_of_getElem? (rulesL_at hc))).1
/-- Is a number among the first of some? -/
def anyTo (g : List Int) (y : Int) (j : Nat) : Bool := (g.take j).contains y
theorem anyTo_succ {g : List Int} {y x : Int} {j : Nat} (h : g[j]? = some x) : anyTo g y (j + 1) = (anyTo g y j || (x == y)) := by
  unfold anyTo
  rw [take_one h, Bool.eq_iff_iff, List.contains_iff_mem, Bool.or_eq_true, List.contains_iff_mem, List.mem_append, List.mem_singleton, beq_iff_eq]
  exact ⟨fun h => h.elim Or.inl (fun e => Or.inr e.symm), fun h => h.elim Or.inl (fun e => Or.inr e.symm)⟩
theorem anyTo_all (g : List Int) (y : Int) {j : Nat} (h : g.length ≤ j) : anyTo g y j = g.contains y := by unfold anyTo; rw [List.take_of_length_le h]
theorem fitsB_cons (r : Int) (g : List Int) (t : List (Int × List Int)) (b : List Int) : fitsB ((r, g) :: t) b = (g.contains (b.getD r.toNat 0) && fitsB t b) := by unfold fitsB; rw [List.all_cons]
end Go.Proofs.YtojdaifnljghkabGreatDoor.M
namespace Go.Proofs.YtojdaifnljghkabGreatDoor.Ref
open Go.ChangeShapes Go.WideShapes Go.ChangeAt Go.RowKit
open Go.Proofs.YtojdaifnljghkabGreatDoor.M
set_option linter.unusedVariables false

end Go.Proofs.YtojdaifnljghkabGreatDoor.Ref
