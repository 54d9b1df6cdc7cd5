/-
  Contracts of package bank's Check, isMask and asked: what each returns, and that memory that was there stays as it was.
-/
import Derived.Test.YtbpgchmbmgfoaaaDoorMeasure
import Derived.Test.YtbpgchmbmgfoaaaDoorAny
import Derived.Deep.DeepCutAuto
namespace Go.Proofs.YtbpgchmbmgfoaaaDoor.Bank
open Go.ChangeShapes Go.WideShapes Go.ChangeAt Go.RowKit
open Go.Proofs.YtbpgchmbmgfoaaaDoor.M Go.Proofs.YtbpgchmbmgfoaaaDoor.Measure
set_option linter.unusedVariables false

theorem bad_any (xs : List Int) (w : World) : Any.Tells 48 #[] (fun x => !isM x) xs w := by
  intro W x _ hb
  show Calls Tryd.prog 48 #[.int .i64 x] W _
  go_enter Tryd.func48, Tryd.ntmps48
  go_wp2_with (go_at_call 49; refine (is_any _ _).mono ?_; rintro e w' ⟨rfl, rfl⟩)
  go_ret
  exact ⟨by cases isM x <;> rfl, hb⟩

set_option maxHeartbeats 1000000 in
theorem check_any (xs : List Int) (c : Array Value) (w : World) (hc : c = bankC xs) (hl : xs.length = 8) :
    Calls Tryd.prog 35 #[.agg c] w fun e w' => e = .returned (errV 54 (bankE xs)) ∧ Below w.heap.size w w' := by
  have HC := hide hc
  have HL := hide hl
  have e11 : ∀ args w, (callFunc 48 args).run Tryd.prog w = .ok (.enter 48 args) w := enters_of Tryd.func48 (by kernel_rfl) rfl
  clear hc hl
  go_enter Tryd.func35, Tryd.ntmps35
  go_wp2_with (fail)
  refine (Any.contains_any _ xs 8 8 _ #[] _ _ (HL.out).symm (by omega) (bank_row (t := 32) (fr := (0, 0)) (by rw [← HC.out]; exact heap_alloc_new w _)) e11 (bad_any xs _)).mono ?_
  rintro e w1 ⟨rfl, hb⟩
  have HB := hide (((Below.refl _ w).alloc (Nat.le_refl _) (.cells c 32)).trans (hb.mono (by simp)))
  clear hb
  rw [any_bad]
  cases ho : okAll xs with
  | true =>
    have E := hide (bankE_ok ho)
    go_wp2
    go_ret
    exact ⟨by rw [E.out]; rfl, HB.out⟩
  | false =>
    have E := hide (bankE_bad ho)
    go_wp2
    go_ret
    exact ⟨by rw [E.out]; rfl, HB.out⟩

theorem isRegister_any (n : Int) (w : World) :
    Calls Tryd.prog 36 #[.int .i64 n] w fun e w' => e = .returned (.bool (isReg n)) ∧ w' = w := by
  by_cases h0 : 0 ≤ n
  · by_cases h1 : n < 8
    · rw [isReg_iff.2 ⟨h0, h1⟩]
      go_enter Tryd.func36, Tryd.ntmps36
      go_wp2
      go_ret
      exact ⟨rfl, rfl⟩
    · rw [isReg_false.2 (by omega)]
      go_enter Tryd.func36, Tryd.ntmps36
      go_wp2
      go_ret
      exact ⟨rfl, rfl⟩
  · rw [isReg_false.2 (by omega)]
    go_enter Tryd.func36, Tryd.ntmps36
    go_wp2
    go_ret
    exact ⟨rfl, rfl⟩

theorem info_int : (Tryd.prog.info? 3).map (fun i => (i.zero, i.size, i.bytes)) = some (some (.int .i64 0), 1, 8) := by kernel_rfl

end Go.Proofs.YtbpgchmbmgfoaaaDoor.Bank
