/-
  Contracts of what package stairref1 says on rules (Rules, Mask, Fits): each returns what the plain mathematics says, and memory that was there stays as it was.
-/
import Derived.Test.YtojdaifnljghkabGreatDoorQRef1
import Derived.Test.YtojdaifnljghkabGreatDoorQOpenR
import Derived.Test.YtojdaifnljghkabGreatDoorQRuleMath
import Derived.Deep.QuietTactic
import Derived.BigQuiet
import Derived.Deep.DeepCutAuto
namespace Go.Proofs.YtojdaifnljghkabGreatDoor.M
theorem drop_cons {α : Type} {l : List α} {k : Nat} {x : α} (h : l[k]? = some x) : l.drop k = x :: l.drop (k + 1) := by
  obtain ⟨h1, h2⟩ := List.getElem?_eq_some_iff.1 h
  rw [List.drop_eq_getElem_cons h1, h2]
/-- The registers of the first rules. -/
def regsTo (l : List (Int × Value × List Int)) (k : Nat) : List Int := ((rulesL l).take k).map (·.1)
theorem regsTo_succ {l : List (Int × Value × List Int)} {k : Nat} {r : Int} {v : Value} {g : List Int} (h : l[k]? = some (r, v, g)) : regsTo l (k + 1) = regsTo l k ++ [r] := by
  unfold regsTo
  rw [take_one (rulesL_at h), List.map_append]
  rfl
theorem regsTo_not {l : List (Int × Value × List Int)} {k : Nat} {r : Int} (h : ∀ (j : Nat) (c : Int × Value × List Int), j < k → l[j]? = some c → c.1 ≠ r) : (regsTo l k).contains r = false := by
  apply Bool.eq_false_iff.2
  intro hc
  obtain ⟨d, hd, he⟩ := List.mem_map.1 (List.contains_iff_mem.1 hc)
  obtain ⟨j, hj⟩ := List.getElem?_of_mem hd
  rw [List.getElem?_take] at hj
  split at hj
  · rename_i hlt
    unfold rulesL at hj
    rw [List.getElem?_map] at hj
    obtain ⟨c, hc1, hc2⟩ := Option.map_eq_some_iff.1 hj
    exact h j c hlt hc1 (by rw [← he, ← hc2])
  · cases hj
theorem regsTo_has {l : List (Int × Value × List Int)} {k j : Nat} {c : Int × Value × List Int} (hj : j < k) (h : l[j]? = some c) : (regsTo l k).contains c.1 = true := by
  apply List.contains_iff_mem.2
  unfold regsTo
  refine List.mem_map.2 ⟨(c.1, c.2.2), ?_, rfl⟩
  apply List.mem_of_getElem? (i := j)
  rw [List.getElem?_take, if_pos hj]
  exact rulesL_at h
theorem below_quietR {B : Nat} {a w : World} (h : Go.RowKit.Below B a w) : ∀ n, Go.RowKit.Below B a (w.drewN n)
  | 0 => h
  | n + 1 => Go.RowKit.Below.drew (below_quietR h n)
end Go.Proofs.YtojdaifnljghkabGreatDoor.M
namespace Go.Proofs.YtojdaifnljghkabGreatDoor.Ref
open Go.ChangeShapes Go.WideShapes Go.ChangeAt Go.RowKit
open Go.Proofs.YtojdaifnljghkabGreatDoor.M
set_option linter.unusedVariables false

end Go.Proofs.YtojdaifnljghkabGreatDoor.Ref
