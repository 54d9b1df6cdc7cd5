/-
  Contracts of stairref2's name and yes: the name of an error, and yes or no; memory that was there stays as it was.
-/
import Derived.Test.YtjkcplpmhjnahaaGreatDoorPack1
namespace Go.Proofs.YtjkcplpmhjnahaaGreatDoor.RunRef
open Go.ChangeShapes Go.WideShapes Go.ChangeAt Go.RowKit
open Go.Proofs.YtjkcplpmhjnahaaGreatDoor.M
set_option linter.unusedVariables false

def namesO : Obj := .cells #[.string { data := #[79, 75] }, .string { data := #[69, 114, 114, 82, 97, 110, 103, 101] }, .string { data := #[69, 114, 114, 83, 121, 110, 116, 97, 120] }, .string { data := #[69, 114, 114, 83, 104, 97, 112, 101] }, .string { data := #[69, 114, 114, 70, 117, 108, 108] }, .string { data := #[69, 114, 114, 78, 111, 110, 101] }, .string { data := #[69, 114, 114, 83, 116, 97, 116, 101] }, .string { data := #[69, 114, 114, 67, 108, 97, 115, 104] }, .string { data := #[69, 114, 114, 83, 101, 97, 108] }, .string { data := #[69, 114, 114, 79, 108, 100] }] 9
theorem names_at (w : World) (k : Nat) (h : k ≤ 9) : (w.alloc namesO).cell? ⟨w.heap.size, k, none⟩ = some (.string { data := (errN k).toArray }) := by
  rw [cell_of_row _ _ _ _ _ _ (blk_new w namesO)]
  match k, h with
  | 0, _ => rfl
  | 1, _ => rfl
  | 2, _ => rfl
  | 3, _ => rfl
  | 4, _ => rfl
  | 5, _ => rfl
  | 6, _ => rfl
  | 7, _ => rfl
  | 8, _ => rfl
  | 9, _ => rfl
set_option maxHeartbeats 2000000 in
theorem name_any (k : Nat) (h : k ≤ 9) (w : World) : Calls Tryz.prog 17 #[.int .i64 k] w fun e w' => e = .returned (.string { data := (errN k).toArray }) ∧ Below w.heap.size w w' := by
  have c := names_at w k h
  have HB := hide (below_new w namesO)
  have hz : (k : Int) < 10 := by omega
  unfold namesO at c HB
  generalize ({ data := (errN k).toArray } : ByteArray) = s at *
  go_enter Tryz.func17, Tryz.ntmps17
  go_wp2
  go_ret
  exact ⟨rfl, HB.out⟩
set_option maxHeartbeats 2000000 in
theorem yes_any (b : Bool) (k : Nat) (h : k ≤ 9) (w : World) : Calls Tryz.prog 23 #[.bool b, .int .i64 k] w fun e w' => e = .returned (.string { data := (if k = 0 then (if b = true then ansYes else ansNo) else errN k).toArray }) ∧ Below w.heap.size w w' := by
  by_cases h0 : k = 0
  · subst h0
    cases b with
    | true =>
      go_enter Tryz.func23, Tryz.ntmps23
      go_wp2
      go_ret
      exact ⟨rfl, Below.refl _ _⟩
    | false =>
      go_enter Tryz.func23, Tryz.ntmps23
      go_wp2
      go_ret
      exact ⟨rfl, Below.refl _ _⟩
  · rw [if_neg h0]
    have NA := hide (fun W => name_any k h W)
    have h0z : ((k : Int) == 0) = false := by simp; omega
    go_enter Tryz.func23, Tryz.ntmps23
    go_wp2_with (fail)
    refine (NA.out _).mono ?_
    rintro e w1 ⟨rfl, hb1⟩
    go_wp2
    go_ret
    exact ⟨rfl, hb1⟩
end Go.Proofs.YtjkcplpmhjnahaaGreatDoor.RunRef
