/-
  Contracts of package image's number: a text as a Version, or that it is none; memory that was there stays as it was.
-/
import Derived.Test.YtojdaifnljghkabGreatDoorPack1
import Derived.Lib.AtoiBound
namespace Go.Proofs.YtojdaifnljghkabGreatDoor.M
/-- A text as a Version: the number (0 where it is none), and the fault. -/
def numV (s : ByteArray) : Int := (((numO s.data.toList).getD 0 : Nat) : Int)
def numE (s : ByteArray) : Int := if (numO s.data.toList).isSome then 0 else 2
theorem num_some {s : ByteArray} {n : Nat} (h : numO s.data.toList = some n) : numV s = n ∧ numE s = 0 := by unfold numV numE; rw [h]; exact ⟨rfl, rfl⟩
theorem num_none {s : ByteArray} (h : numO s.data.toList = none) : numV s = 0 ∧ numE s = 2 := by unfold numV numE; rw [h]; exact ⟨rfl, rfl⟩
theorem numO_long {l : List UInt8} (h : 4 < l.length) : numO l = none := by unfold numO; rw [if_pos (Or.inr (Or.inl h))]
theorem numO_noatoi {l : List UInt8} (h : Lib.atoi l = none) : numO l = none := by
  cases e : numO l with
  | none => rfl
  | some n => rw [numO_atoi e] at h; cases h
theorem numO_neg {l : List UInt8} {n : Int} (h : Lib.atoi l = some n) (hn : n < 0) : numO l = none := by
  cases e : numO l with
  | none => rfl
  | some m =>
    rw [numO_atoi e] at h
    have := Option.some.inj h
    omega
theorem numO_other {l : List UInt8} {n : Int} (h : Lib.atoi l = some n) (hn : Lib.itoa n ≠ l) : numO l = none := by
  cases e : numO l with
  | none => rfl
  | some m =>
    rw [numO_atoi e] at h
    have := Option.some.inj h
    subst this
    exact absurd (numO_itoa e) hn
theorem numO_same {l : List UInt8} {n : Int} (hn : 0 ≤ n) (hl : l.length ≤ 4) (h : Lib.itoa n = l) : numO l = some n.toNat := by
  obtain ⟨m, rfl⟩ : ∃ m : Nat, n = m := ⟨n.toNat, by omega⟩
  rw [itoa_nat] at h
  subst h
  exact numO_dec hl
end Go.Proofs.YtojdaifnljghkabGreatDoor.M
namespace Go.Proofs.YtojdaifnljghkabGreatDoor.Image
open Go.ChangeShapes Go.WideShapes Go.ChangeAt Go.RowKit
open Go.Proofs.YtojdaifnljghkabGreatDoor.M
set_option linter.unusedVariables false

end Go.Proofs.YtojdaifnljghkabGreatDoor.Image
