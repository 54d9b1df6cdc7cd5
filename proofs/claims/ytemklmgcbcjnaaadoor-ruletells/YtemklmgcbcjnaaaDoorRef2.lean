/-
  Contracts of what package stairref1 says on banks (Bank, Asks, Digest, Digested): each returns what the plain mathematics says, and memory that was there stays as it was.
-/
import Derived.Test.YtemklmgcbcjnaaaDoorRef1
import Derived.Test.YtemklmgcbcjnaaaDoorBank4
namespace Go.Proofs.YtemklmgcbcjnaaaDoor.Ref
open Go.ChangeShapes Go.WideShapes Go.ChangeAt Go.RowKit
open Go.Proofs.YtemklmgcbcjnaaaDoor.M Go.Proofs.YtemklmgcbcjnaaaDoor.Bank
set_option linter.unusedVariables false

set_option maxHeartbeats 1000000 in
theorem bank_any (xs : List Int) (c : Array Value) (w : World) (hc : c = bankC xs) (hl : xs.length = 8) :
    Calls Tryd.prog 9 #[.agg c] w fun e w' => e = .returned (.int .i64 (bankE xs)) ∧ Below w.heap.size w w' := by
  have HC := hide hc
  have HL := hide hl
  have HG := hide (heap_alloc_new w (.cells c 24))
  have HB := hide ((Below.refl _ w).alloc (Nat.le_refl _) (.cells c 24))
  clear hc hl
  go_enter Tryd.func9, Tryd.ntmps9
  go_wp2
  go_loop [3, 4] (fun i _ => ∃ k : Nat, k ≤ 8 ∧ i = .int .i64 k ∧ Hid (∀ (j : Nat) (x : Int), j < k → xs[j]? = some x → isM x = true)) (fun i _ => 8 - (intOf i).toNat)
  case atStart => exact ⟨0, by omega, rfl, fun j x h => by omega⟩
  case round =>
    obtain ⟨k, hk, rfl, HA⟩ := hrel
    by_cases hlt : k < 8
    · obtain ⟨x, hx⟩ : ∃ x, xs[k]? = some x := ⟨_, List.getElem?_eq_getElem (by have := HL.out; omega)⟩
      have HX := hide hx
      have hcell : (w.alloc (.cells c 24)).cell? ⟨w.heap.size, k, none⟩ = some (.int .i64 x) := bank_cell (xs := xs) (t := 24) (fr := (0, 0)) (by rw [← HC.out]; exact HG.out) hx
      clear hx
      cases hm : isM x with
      | true =>
        go_wp2_with (go_at_call 12; refine (is_any _ _).mono ?_; rintro e w6 ⟨rfl, rfl⟩)
        go_round
        case rel => exact ⟨k + 1, by omega, by go_num, fun j y hj hy => by
          by_cases e : j = k
          · subst e; rw [HX.out] at hy; cases hy; exact hm
          · exact HA.out j y (by omega) hy⟩
        case measure => simp [intOf]; omega
      | false =>
        have E := hide (bankE_bad (okAll_not HX.out hm))
        go_wp2_with (go_at_call 12; refine (is_any _ _).mono ?_; rintro e w6 ⟨rfl, rfl⟩)
        go_ret
        exact ⟨by rw [E.out]; rfl, HB.out⟩
    · have E := hide (bankE_ok (okAll_of (xs := xs) fun j x hx => HA.out j x (by have := (List.getElem?_eq_some_iff.1 hx).1; have := HL.out; omega) hx))
      go_wp2
      go_ret
      exact ⟨by rw [E.out]; rfl, HB.out⟩

theorem bit_beq (m : Int) (k : Nat) : bit m k = (m / 2 ^ k % 2 == 1) := by
  unfold bit
  exact Bool.eq_iff_iff.2 (by simp)
theorem half (m : Int) (k : Nat) : m / 2 ^ k / 2 = m / 2 ^ (k + 1) := by
  rw [Int.ediv_ediv_of_nonneg (Int.pow_nonneg (by decide)), Int.pow_succ]
theorem half_range (m : Int) (k : Nat) (h0 : 0 ≤ m) (h1 : m ≤ 255) : 0 ≤ m / 2 ^ k ∧ m / 2 ^ k ≤ 255 := by
  have hp : (0 : Int) < 2 ^ k := Int.pow_pos (by decide)
  refine ⟨Int.ediv_nonneg h0 (by omega), ?_⟩
  exact Int.le_trans (Int.ediv_le_self _ h0) h1

end Go.Proofs.YtemklmgcbcjnaaaDoor.Ref
