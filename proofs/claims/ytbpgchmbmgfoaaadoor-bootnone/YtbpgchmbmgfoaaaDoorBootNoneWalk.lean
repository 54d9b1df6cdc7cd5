/-
  The walk of stairlaw4.BootNone: it returns true, and memory that was there stays as it was.
-/
import Derived.Test.YtbpgchmbmgfoaaaDoorBootLaw
import Derived.Test.YtbpgchmbmgfoaaaDoorBank4
namespace Go.Proofs.YtbpgchmbmgfoaaaDoor.BootNone
open Go.ChangeShapes Go.WideShapes Go.ChangeAt Go.RowKit
open Go.Proofs.YtbpgchmbmgfoaaaDoor.M Go.Proofs.YtbpgchmbmgfoaaaDoor.Boot Go.Proofs.YtbpgchmbmgfoaaaDoor.Image
set_option linter.unusedVariables false

theorem blk_two (w : World) (o o' : Obj) : ((w.alloc o).alloc o').heap[w.heap.size + 1]? = some o' := by
  have := blk_new (w.alloc o) o'
  simpa using this
set_option maxHeartbeats 2000000 in
theorem walk (RL : RunLaw) (q : Int) (w : World) (hh : Has w) :
    Calls Tryd.prog 4 #[.int .i64 q] w fun e w' => e = .returned (.bool true) ∧ Below w.heap.size w w' := by
  have HH := hide (fun (W : World) (h : Below w.heap.size w W) => hh.below h)
  have R : Hid (∀ (x : Int) (W : World), Has W → Calls Tryd.prog 11 #[.int .i64 x, .slice none 0 0] W fun e w' => (∃ ae ce, e = .returned (.tuple #[.agg #[.int .i64 0, .int .i64 0, .int .i64 0, .int .i64 0, .int .i64 0, .int .i64 0, .int .i64 0, .int .i64 0], .slice ae 0 ce, .int .i64 0, errV 54 (botE x [])])) ∧ Below W.heap.size W w') := by
    intro x W h
    have := RL x none [] 0 0 W rfl (by unfold maxLen; omega) (RRow.nil _ _) (fun s hs => by cases hs) h
    rw [(bot_nil x).1, (bot_nil x).2.1, (bot_nil x).2.2] at this
    refine this.mono ?_
    rintro e w' ⟨⟨ae, ce, h1, _⟩, h2⟩
    exact ⟨⟨ae, ce, h1⟩, h2⟩
  have R0 := hide (R.out 0)
  rw [botE_key (show inB 0 = false by decide), errV_one] at R0
  have R1 := hide (R.out q)
  have EQ : ∀ W : World, (Op.equalIn 10000 32 (.agg #[.int .i64 0, .int .i64 0, .int .i64 0, .int .i64 0, .int .i64 0, .int .i64 0, .int .i64 0, .int .i64 0]) (.agg #[.int .i64 0, .int .i64 0, .int .i64 0, .int .i64 0, .int .i64 0, .int .i64 0, .int .i64 0, .int .i64 0])).run Tryd.prog W = .ok true W := fun W => Bank.eq_bank (xs := noBank) (ys := noBank) rfl rfl W
  clear RL hh R
  go_enter Tryd.func4, Tryd.ntmps4
  go_wp2_with (fail)
  refine (R0.out _ (HH.out _ (Below.refl _ _))).mono ?_
  rintro e w1 ⟨⟨ae, ce, rfl⟩, hb1⟩
  have HB1 := hide (below_on hb1 (below_new w1 (.cells #[.int .i64 0, .int .i64 0, .int .i64 0, .int .i64 0, .int .i64 0, .int .i64 0, .int .i64 0, .int .i64 0] 32)))
  clear hb1 R0
  go_wp2_with ((with_reducible refine Bank.wpl_store_new 3 14 _ _ ?_ ?_ ?_ ?_ Bank.noBank_size Bank.noBank_size Bank.noBank_one ?_); rfl; rfl; rfl; rfl)
  refine (R1.out _ (HH.out _ HB1.out)).mono ?_
  rintro e w2 ⟨⟨ae2, ce2, rfl⟩, hb2⟩
  have HB2 := hide (below_on HB1.out hb2)
  have HX2 := hide (blk_keep (blk_new w2 (.cells #[.int .i64 0, .int .i64 0, .int .i64 0, .int .i64 0, .int .i64 0, .int .i64 0, .int .i64 0, .int .i64 0] 32)) (.cells #[.int .i64 0, .int .i64 0, .int .i64 0, .int .i64 0, .int .i64 0, .int .i64 0, .int .i64 0, .int .i64 0] 32))
  have HN2 := hide (blk_two w2 (.cells #[.int .i64 0, .int .i64 0, .int .i64 0, .int .i64 0, .int .i64 0, .int .i64 0, .int .i64 0, .int .i64 0] 32) (.cells #[.int .i64 0, .int .i64 0, .int .i64 0, .int .i64 0, .int .i64 0, .int .i64 0, .int .i64 0, .int .i64 0] 32))
  have HBA := hide (below_on (below_on HB2.out (below_new w2 (.cells #[.int .i64 0, .int .i64 0, .int .i64 0, .int .i64 0, .int .i64 0, .int .i64 0, .int .i64 0, .int .i64 0] 32))) (below_new _ (.cells #[.int .i64 0, .int .i64 0, .int .i64 0, .int .i64 0, .int .i64 0, .int .i64 0, .int .i64 0, .int .i64 0] 32)))
  clear hb2 HB1 HB2 R1
  cases hq : inB q with
  | true =>
    rw [botE_go hq (by simp), show botF [] = 0 from rfl, errV_zero]
    clear hq
    go_wp2_with (first | ((with_reducible refine Bank.wpl_store_new 7 23 _ _ ?_ ?_ ?_ ?_ Bank.noBank_size Bank.noBank_size Bank.noBank_one ?_); rfl; rfl; rfl; rfl) | ((with_reducible refine Bank.wpl_load 7 ?_ ?_ _ ?_ _ _ HX2.out Bank.noBank_size ?_); rfl; rfl; rfl) | ((with_reducible refine Bank.wpl_load 11 ?_ ?_ _ ?_ _ _ HN2.out Bank.noBank_size ?_); rfl; rfl; rfl))
    go_ret
    exact ⟨rfl, HBA.out⟩
  | false =>
    have hn := inB_not.1 hq
    rw [botE_key hq, errV_one]
    clear hq
    by_cases h1 : q < 1
    · clear hn
      go_wp2_with ((with_reducible refine Bank.wpl_store_new 7 23 _ _ ?_ ?_ ?_ ?_ Bank.noBank_size Bank.noBank_size Bank.noBank_one ?_); rfl; rfl; rfl; rfl)
      go_ret
      exact ⟨rfl, HBA.out⟩
    · have h2 : 1542 < q := by omega
      clear hn
      go_wp2_with ((with_reducible refine Bank.wpl_store_new 7 23 _ _ ?_ ?_ ?_ ?_ Bank.noBank_size Bank.noBank_size Bank.noBank_one ?_); rfl; rfl; rfl; rfl)
      go_ret
      exact ⟨rfl, HBA.out⟩
end Go.Proofs.YtbpgchmbmgfoaaaDoor.BootNone
