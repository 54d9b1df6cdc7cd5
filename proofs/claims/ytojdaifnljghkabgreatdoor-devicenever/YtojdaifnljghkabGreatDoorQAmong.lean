/-
  Contracts of slices.Index and slices.Contains at ints over this translation: whether a number is among those of a row; memory stays as it was.
-/
import Derived.Test.YtojdaifnljghkabGreatDoorRows
import Derived.Test.YtojdaifnljghkabGreatDoorPack1
import Derived.WalkKit
import Derived.ProofKit
import Derived.Handy
namespace Go.Proofs.YtojdaifnljghkabGreatDoor.Among
open Go.ChangeShapes Go.WideShapes Go.ChangeAt Go.RowKit
open Go.Proofs.YtojdaifnljghkabGreatDoor.M
set_option linter.unusedVariables false

/-- Where a number is among some, or -1. -/
def IsIx (xs : List Int) (y r : Int) : Prop := decide (0 ≤ r) = xs.contains y ∧ -1 ≤ r ∧ r < 9223372036854775807

set_option maxHeartbeats 1000000 in
theorem index_any (a : Option Addr) (xs : List Int) (n cap : Nat) (y : Int) (w : World) (hn : n = xs.length) (hm : n ≤ maxLen) (hr : Row w a xs) :
    Calls Tryz.prog 146 #[.slice a n cap, .int .i64 y] w fun e w' => (∃ r : Int, e = .returned (.int .i64 r) ∧ IsIx xs y r) ∧ w' = w := by
  have hm' : n ≤ 9223372036854775807 := by unfold maxLen at hm; omega
  have HM := hide hm
  have HN := hide hn
  have HR := hide hr
  clear hn hr hm
  go_enter Tryz.func146, Tryz.ntmps146
  go_wp2
  go_loop [8] (fun i => ∃ k : Nat, k ≤ n ∧ i = .int .i64 k ∧ Hid (∀ (j : Nat) (x : Int), j < k → xs[j]? = some x → ¬ y = x)) (fun i => n - (intOf i).toNat)
  case atStart => exact ⟨0, by omega, rfl, (fun j x h => by omega : ∀ (j : Nat) (x : Int), j < 0 → xs[j]? = some x → ¬ y = x)⟩
  case round =>
    obtain ⟨k, hk, rfl, HA⟩ := hrel
    by_cases hlt : k < n
    · have hlz : (k : Int) < n := by omega
      obtain ⟨x, hx⟩ : ∃ x, xs[k]? = some x := ⟨xs[k]'(by have := HN.out; omega), List.getElem?_eq_getElem (by have := HN.out; omega)⟩
      have HX := hide hx
      clear hx
      have hrow : ∃ b off, a = some ⟨b, off, none⟩ ∧ w.cell? ⟨b, off + k, none⟩ = some (.int .i64 x) := by
        rcases HR.out with h | ⟨b, off, h1, h2⟩
        · have := HX.out; rw [h] at this; simp at this
        · exact ⟨b, off, h1, h2 k x HX.out⟩
      obtain ⟨b, off, rfl, hc⟩ := hrow
      by_cases he : y = x
      · have E : Hid (IsIx xs y k) := ⟨by rw [he, List.contains_iff_mem.2 (List.mem_of_getElem? HX.out)]; exact decide_eq_true (by omega), by omega, by have := HM.out; unfold maxLen at this; omega⟩
        subst he
        go_wp2
        go_ret
        exact ⟨⟨k, rfl, E.out⟩, rfl⟩
      · go_wp2
        go_round
        case rel => exact ⟨k + 1, by omega, by go_num, (show ∀ (j : Nat) (z : Int), j < k + 1 → xs[j]? = some z → ¬ y = z from fun j z hj hz => by
          by_cases e : j = k
          · subst e; rw [HX.out] at hz; cases hz; exact he
          · exact HA.out j z (by omega) hz)⟩
        case measure => simp [intOf]; omega
    · have hlz : ¬ (k : Int) < n := by omega
      have E := hide (show xs.contains y = false by
        apply Bool.eq_false_iff.2
        intro hc
        obtain ⟨j, hj⟩ := List.getElem?_of_mem (List.contains_iff_mem.1 hc)
        exact HA.out j y (by have := (List.getElem?_eq_some_iff.1 hj).1; have := HN.out; omega) hj rfl)
      go_wp2
      go_ret
      exact ⟨⟨-1, rfl, by rw [E.out]; rfl, by omega, by omega⟩, rfl⟩
set_option maxHeartbeats 1000000 in
theorem contains_any (a : Option Addr) (xs : List Int) (n cap : Nat) (y : Int) (w : World) (hn : n = xs.length) (hm : n ≤ maxLen) (hr : Row w a xs) :
    Calls Tryz.prog 131 #[.slice a n cap, .int .i64 y] w fun e w' => e = .returned (.bool (xs.contains y)) ∧ w' = w := by
  have C := hide (index_any a xs n cap y w hn hm hr)
  clear hn hm hr
  go_enter Tryz.func131, Tryz.ntmps131
  go_wp2_with (fail)
  refine C.out.mono ?_
  rintro e w' ⟨⟨r, rfl, hr, h1, h2⟩, rfl⟩
  have HR := hide hr
  clear hr
  go_wp2
  go_ret
  exact ⟨by rw [← HR.out]; rfl, rfl⟩
end Go.Proofs.YtojdaifnljghkabGreatDoor.Among
