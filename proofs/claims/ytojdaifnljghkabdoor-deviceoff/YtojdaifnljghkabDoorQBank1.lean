/-
  Contracts of package bank's Check, isMask and asked: what each returns, and that memory that was there stays as it was.
-/
import Derived.Test.YtojdaifnljghkabDoorPack1
import Derived.Test.YtojdaifnljghkabDoorQAny
import Derived.Deep.DeepCutAuto
namespace Go.Proofs.YtojdaifnljghkabDoor.Bank
open Go.ChangeShapes Go.WideShapes Go.ChangeAt Go.RowKit
open Go.Proofs.YtojdaifnljghkabDoor.M Go.Proofs.YtojdaifnljghkabDoor.Measure
set_option linter.unusedVariables false

theorem bad_any (xs : List Int) (w : World) : Any.Tells 59 #[] (fun x => !isM x) xs w := by
  intro W x _ hb
  show Calls Tryd.prog 59 #[.int .i64 x] W _
  go_enter Tryd.func59, Tryd.ntmps59
  go_wp2_with (go_at_call 60; refine (is_any _ _).mono ?_; rintro e w' ⟨rfl, rfl⟩)
  go_ret
  exact ⟨by cases isM x <;> rfl, hb⟩

set_option maxHeartbeats 1000000 in
theorem check_any (xs : List Int) (c : Array Value) (w : World) (hc : c = bankC xs) (hl : xs.length = 8) :
    Calls Tryd.prog 41 #[.agg c] w fun e w' => e = .returned (errV 46 (bankE xs)) ∧ Below w.heap.size w w' := by
  have HC := hide hc
  have HL := hide hl
  have e11 : ∀ args w, (callFunc 59 args).run Tryd.prog w = .ok (.enter 59 args) w := enters_of Tryd.func59 (by kernel_rfl) rfl
  clear hc hl
  go_enter Tryd.func41, Tryd.ntmps41
  go_wp2_with (fail)
  refine (Any.contains_any _ xs 8 8 _ #[] _ _ (HL.out).symm (by omega) (bank_row (t := 59) (fr := (0, 0)) (by rw [← HC.out]; exact heap_alloc_new w _)) e11 (bad_any xs _)).mono ?_
  rintro e w1 ⟨rfl, hb⟩
  have HB := hide (((Below.refl _ w).alloc (Nat.le_refl _) (.cells c 59)).trans (hb.mono (by simp)))
  clear hb
  rw [any_bad]
  cases ho : okAll xs with
  | true =>
    have E := hide (bankE_ok ho)
    go_wp2
    go_ret
    exact ⟨by rw [E.out]; rfl, HB.out⟩
  | false =>
    have E := hide (bankE_bad ho)
    go_wp2
    go_ret
    exact ⟨by rw [E.out]; rfl, HB.out⟩

theorem isMask_any (n : Int) (w : World) :
    Calls Tryd.prog 42 #[.int .i64 n] w fun e w' => e = .returned (.bool (isMask n)) ∧ w' = w := by
  by_cases h0 : 0 ≤ n
  · by_cases h1 : n ≤ 255
    · rw [isMask_iff.2 ⟨h0, h1⟩]
      go_enter Tryd.func42, Tryd.ntmps42
      go_wp2
      go_ret
      exact ⟨rfl, rfl⟩
    · rw [isMask_false.2 (by omega)]
      go_enter Tryd.func42, Tryd.ntmps42
      go_wp2
      go_ret
      exact ⟨rfl, rfl⟩
  · rw [isMask_false.2 (by omega)]
    go_enter Tryd.func42, Tryd.ntmps42
    go_wp2
    go_ret
    exact ⟨rfl, rfl⟩

theorem isRegister_any (n : Int) (w : World) :
    Calls Tryd.prog 51 #[.int .i64 n] w fun e w' => e = .returned (.bool (isReg n)) ∧ w' = w := by
  by_cases h0 : 0 ≤ n
  · by_cases h1 : n < 8
    · rw [isReg_iff.2 ⟨h0, h1⟩]
      go_enter Tryd.func51, Tryd.ntmps51
      go_wp2
      go_ret
      exact ⟨rfl, rfl⟩
    · rw [isReg_false.2 (by omega)]
      go_enter Tryd.func51, Tryd.ntmps51
      go_wp2
      go_ret
      exact ⟨rfl, rfl⟩
  · rw [isReg_false.2 (by omega)]
    go_enter Tryd.func51, Tryd.ntmps51
    go_wp2
    go_ret
    exact ⟨rfl, rfl⟩

theorem info_int : (Tryd.prog.info? 3).map (fun i => (i.zero, i.size, i.bytes)) = some (some (.int .i64 0), 1, 8) := by kernel_rfl

set_option maxHeartbeats 2000000 in
theorem asked_any (m : Int) (w : World) (hm0 : 0 ≤ m) (hm1 : m ≤ 255) :
    Calls Tryd.prog 43 #[.int .i64 m] w fun e w' => ∃ v, e = .returned v ∧ Own w' w.heap.size 3 v (askedL m 8) ∧ Below w.heap.size w w' := by
  go_enter Tryd.func43, Tryd.ntmps43
  go_wp2
  go_loopw [2, 3, 4] (fun v _ i wr => ∃ k : Nat, k ≤ 8 ∧ i = .int .i64 k ∧ Hid (Own wr w.heap.size 3 v (askedL m k)) ∧ Hid (Below w.heap.size w wr)) (fun _ _ i _ => 8 - (intOf i).toNat)
  case atStart => exact ⟨0, by omega, rfl, Own.nil _ _ _, Below.refl _ _⟩
  case round =>
    obtain ⟨k, hk, rfl, HO, HB⟩ := hrel
    by_cases hlt : k < 8
    · have hsz := HB.out.size
      cases hbit : bit m k with
      | true =>
        have hand := bit_yes hbit
        go_wp2_with (at_builtin; refine wpList_app rfl _ _ 100 rfl w.heap.size 3 info_int Tryd.underlying100 _ (askedL m k) rfl (HO.out.alloc _) (some ⟨wr.heap.size, 0, none⟩) 1 1 [(k : Int)] rfl rfl (fun h => by cases h) (Row.one _ _ _ (by simp)) (by have := askedL_len m k; simp; omega) (by simp; omega) ?_; intro v' w1 ho hgr)
        go_roundw
        case rel => exact ⟨k + 1, by omega, by go_num, by rw [askedL_hit hbit]; exact ho, (HB.out.alloc hsz _).grown hgr (by simp; omega) (fun k hk => HO.out.block k hk)⟩
        case measure => simp [intOf]; omega
      | false =>
        have hand := bit_no hbit
        go_wp2
        go_roundw
        case rel => exact ⟨k + 1, by omega, by go_num, by rw [askedL_miss hbit]; exact HO, HB⟩
        case measure => simp [intOf]; omega
    · go_wp2
      go_ret
      have : k = 8 := by omega
      subst this
      exact ⟨_, rfl, HO.out, HB.out⟩
end Go.Proofs.YtojdaifnljghkabDoor.Bank
