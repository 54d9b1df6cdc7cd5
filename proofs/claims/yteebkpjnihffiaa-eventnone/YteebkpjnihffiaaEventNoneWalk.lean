/-
  The walk of stairlaw4.EventNone: it returns true, and memory that was there stays as it was.
-/
import Derived.Test.YteebkpjnihffiaaEventLaw
import Derived.Test.YteebkpjnihffiaaBank4
namespace Go.Proofs.Yteebkpjnihffiaa.EventNone
open Go.ChangeShapes Go.WideShapes Go.ChangeAt Go.RowKit
open Go.Proofs.Yteebkpjnihffiaa.M Go.Proofs.Yteebkpjnihffiaa.Event
set_option linter.unusedVariables false

theorem one_row (w : World) (T : TypeId) : RRow 2 evV (w.alloc (.cells #[.int .i64 (-1), .int .i64 0] T)) (some ⟨w.heap.size, 0, none⟩) [(-1, 0)] := by
  refine Or.inr ⟨w.heap.size, 0, rfl, fun k x hx j v hv => ?_⟩
  rw [cell_of_row _ _ _ _ _ _ (blk_new w (.cells #[.int .i64 (-1), .int .i64 0] T))]
  match k, hx with
  | 0, hx =>
    simp at hx
    subst hx
    match j, hv with
    | 0, hv => simpa [evV] using hv
    | 1, hv => simpa [evV] using hv
    | j + 2, hv => simp [evV] at hv
  | k + 1, hx => simp at hx

theorem blk_two (w : World) (o o' : Obj) : ((w.alloc o).alloc o').heap[w.heap.size + 1]? = some o' := by
  have := blk_new (w.alloc o) o'
  simpa using this
set_option maxHeartbeats 2000000 in
theorem walk (CL : CheckLaw) (RL : ReplayLaw) (ML : MatchLaw) (ys : List Int) (bc : Array Value) (m : Int) (w : World) (hbc : bc = bankC ys) (hl : ys.length = 8) :
    Calls Try.prog 4 #[.agg bc, .int .i64 m] w fun e w' => e = .returned (.bool true) ∧ Below w.heap.size w w' := by
  have HB0 := hide (below_new w (.cells bc 26))
  have HG0 := hide (blk_new w (.cells bc 26))
  have HS := hide (show bc.size = 8 by rw [hbc, bankC_size, hl])
  have CK : Hid (Calls Try.prog 7 #[.slice (some ⟨w.heap.size + 1, 0, none⟩) 1 1] ((w.alloc (.cells bc 26)).alloc (.cells #[.int .i64 (-1), .int .i64 0] 24)) fun e w' => e = .returned (.iface 40 (.int .i64 1)) ∧ Below ((w.alloc (.cells bc 26)).alloc (.cells #[.int .i64 (-1), .int .i64 0] 24)).heap.size ((w.alloc (.cells bc 26)).alloc (.cells #[.int .i64 (-1), .int .i64 0] 24)) w') := by
    have hrow := one_row (w.alloc (.cells bc 26)) 24
    rw [World.size_alloc] at hrow
    exact CL _ [(-1, 0)] 1 1 _ rfl (by unfold maxLen; omega) hrow
  have RP : Hid (∀ W : World, Calls Try.prog 5 #[.slice none 0 0] W fun e w' => e = .returned (.tuple #[.agg #[.int .i64 0, .int .i64 0, .int .i64 0, .int .i64 0, .int .i64 0, .int .i64 0, .int .i64 0, .int .i64 0], .nilIface]) ∧ Below W.heap.size W w') :=
    fun W => RL none [] 0 0 W rfl (by unfold maxLen; omega) (Or.inl rfl)
  have MT : Hid (∀ W : World, Calls Try.prog 8 #[.slice none 0 0, .agg bc, .int .i64 m] W fun e w' => e = .returned (.tuple #[.bool (sameV noBank ys m), errV 40 (sameE noBank ys m)]) ∧ Below W.heap.size W w') :=
    fun W => ML none [] 0 0 ys bc m W rfl (by unfold maxLen; omega) (Or.inl rfl) hbc hl
  have SM := hide (fun W => Bank.same_any noBank ys #[.int .i64 0, .int .i64 0, .int .i64 0, .int .i64 0, .int .i64 0, .int .i64 0, .int .i64 0, .int .i64 0] bc m W rfl hbc rfl hl)
  have BK := hide (fun W => Bank.check_any ys bc W hbc hl)
  have EQ : ∀ W : World, (Op.equalIn 10000 26 (.agg #[.int .i64 0, .int .i64 0, .int .i64 0, .int .i64 0, .int .i64 0, .int .i64 0, .int .i64 0, .int .i64 0]) (.agg #[.int .i64 0, .int .i64 0, .int .i64 0, .int .i64 0, .int .i64 0, .int .i64 0, .int .i64 0, .int .i64 0])).run Try.prog W = .ok true W := fun W => Bank.eq_bank (xs := noBank) (ys := noBank) rfl rfl W
  clear hbc hl CL RL ML
  by_cases hok : okAll ys = true ∧ isMask m = true
  · have e1 : sameE noBank ys m = 0 := sameE_ok rfl hok.1 hok.2
    rw [e1, errV_zero] at MT SM
    generalize sameV noBank ys m = sv at *
    clear hok e1 BK
    go_enter Try.func4, Try.ntmps4
    go_wp2_with (fail)
    refine CK.out.mono ?_
    rintro e w1 ⟨rfl, hb1⟩
    have HB1 := hide (below_on (below_on HB0.out (below_new _ _)) hb1)
    have HG1 := hide (blk_below (blk_keep HG0.out _) hb1)
    clear hb1 HB0 HG0 CK
    go_wp2_with (fail)
    refine (RP.out _).mono ?_
    rintro e w2 ⟨rfl, hb2⟩
    have HB2 := hide (below_on HB1.out hb2)
    have HG2 := hide (blk_below HG1.out hb2)
    clear hb2 HB1 HG1 RP
    have HX2 := hide (blk_keep (blk_new w2 (.cells #[.int .i64 0, .int .i64 0, .int .i64 0, .int .i64 0, .int .i64 0, .int .i64 0, .int .i64 0, .int .i64 0] 26)) (.cells #[.int .i64 0, .int .i64 0, .int .i64 0, .int .i64 0, .int .i64 0, .int .i64 0, .int .i64 0, .int .i64 0] 26))
    have HN2 := hide (blk_two w2 (.cells #[.int .i64 0, .int .i64 0, .int .i64 0, .int .i64 0, .int .i64 0, .int .i64 0, .int .i64 0, .int .i64 0] 26) (.cells #[.int .i64 0, .int .i64 0, .int .i64 0, .int .i64 0, .int .i64 0, .int .i64 0, .int .i64 0, .int .i64 0] 26))
    have HGA := hide (blk_keep (blk_keep HG2.out (.cells #[.int .i64 0, .int .i64 0, .int .i64 0, .int .i64 0, .int .i64 0, .int .i64 0, .int .i64 0, .int .i64 0] 26)) (.cells #[.int .i64 0, .int .i64 0, .int .i64 0, .int .i64 0, .int .i64 0, .int .i64 0, .int .i64 0, .int .i64 0] 26))
    have HBA := hide (below_on (below_on HB2.out (below_new w2 (.cells #[.int .i64 0, .int .i64 0, .int .i64 0, .int .i64 0, .int .i64 0, .int .i64 0, .int .i64 0, .int .i64 0] 26))) (below_new _ (.cells #[.int .i64 0, .int .i64 0, .int .i64 0, .int .i64 0, .int .i64 0, .int .i64 0, .int .i64 0, .int .i64 0] 26)))
    clear HB2 HG2
    go_wp2_with (first | ((with_reducible refine Bank.wpl_store_new 6 20 _ _ ?_ ?_ ?_ ?_ Bank.noBank_size Bank.noBank_size Bank.noBank_one ?_); rfl; rfl; rfl; rfl) | ((with_reducible refine Bank.wpl_load 2 ?_ ?_ _ ?_ _ _ HGA.out HS.out ?_); rfl; rfl; rfl))
    refine (MT.out _).mono ?_
    rintro e w3 ⟨rfl, hb3⟩
    have HB3 := hide (below_on HBA.out hb3)
    have HG3 := hide (blk_below HGA.out hb3)
    have HX3 := hide (blk_below HX2.out hb3)
    have HN3 := hide (blk_below HN2.out hb3)
    clear hb3 HBA HGA HX2 HN2 MT
    go_wp2_with (first | ((with_reducible refine Bank.wpl_load 8 ?_ ?_ _ ?_ _ _ HN3.out Bank.noBank_size ?_); rfl; rfl; rfl) | ((with_reducible refine Bank.wpl_load 2 ?_ ?_ _ ?_ _ _ HG3.out HS.out ?_); rfl; rfl; rfl))
    refine (SM.out _).mono ?_
    rintro e w4 ⟨rfl, hb4⟩
    have HB4 := hide (below_on HB3.out hb4)
    have HX4 := hide (blk_below HX3.out hb4)
    have HN4 := hide (blk_below HN3.out hb4)
    clear hb4 HB3 HG3 HX3 HN3 SM
    go_wp2_with (first | ((with_reducible refine Bank.wpl_load 8 ?_ ?_ _ ?_ _ _ HN4.out Bank.noBank_size ?_); rfl; rfl; rfl) | ((with_reducible refine Bank.wpl_load 6 ?_ ?_ _ ?_ _ _ HX4.out Bank.noBank_size ?_); rfl; rfl; rfl))
    go_ret
    exact ⟨by cases sv <;> rfl, HB4.out⟩
  · have e1 : sameE noBank ys m = 1 := sameE_bad (fun h => hok ⟨h.2.1, h.2.2⟩)
    rw [e1, errV_one] at MT
    generalize sameV noBank ys m = sv at *
    have HOK := hide hok
    clear hok e1 SM
    go_enter Try.func4, Try.ntmps4
    go_wp2_with (fail)
    refine CK.out.mono ?_
    rintro e w1 ⟨rfl, hb1⟩
    have HB1 := hide (below_on (below_on HB0.out (below_new _ _)) hb1)
    have HG1 := hide (blk_below (blk_keep HG0.out _) hb1)
    clear hb1 HB0 HG0 CK
    go_wp2_with (fail)
    refine (RP.out _).mono ?_
    rintro e w2 ⟨rfl, hb2⟩
    have HB2 := hide (below_on HB1.out hb2)
    have HG2 := hide (blk_below HG1.out hb2)
    clear hb2 HB1 HG1 RP
    have HX2 := hide (blk_keep (blk_new w2 (.cells #[.int .i64 0, .int .i64 0, .int .i64 0, .int .i64 0, .int .i64 0, .int .i64 0, .int .i64 0, .int .i64 0] 26)) (.cells #[.int .i64 0, .int .i64 0, .int .i64 0, .int .i64 0, .int .i64 0, .int .i64 0, .int .i64 0, .int .i64 0] 26))
    have HN2 := hide (blk_two w2 (.cells #[.int .i64 0, .int .i64 0, .int .i64 0, .int .i64 0, .int .i64 0, .int .i64 0, .int .i64 0, .int .i64 0] 26) (.cells #[.int .i64 0, .int .i64 0, .int .i64 0, .int .i64 0, .int .i64 0, .int .i64 0, .int .i64 0, .int .i64 0] 26))
    have HGA := hide (blk_keep (blk_keep HG2.out (.cells #[.int .i64 0, .int .i64 0, .int .i64 0, .int .i64 0, .int .i64 0, .int .i64 0, .int .i64 0, .int .i64 0] 26)) (.cells #[.int .i64 0, .int .i64 0, .int .i64 0, .int .i64 0, .int .i64 0, .int .i64 0, .int .i64 0, .int .i64 0] 26))
    have HBA := hide (below_on (below_on HB2.out (below_new w2 (.cells #[.int .i64 0, .int .i64 0, .int .i64 0, .int .i64 0, .int .i64 0, .int .i64 0, .int .i64 0, .int .i64 0] 26))) (below_new _ (.cells #[.int .i64 0, .int .i64 0, .int .i64 0, .int .i64 0, .int .i64 0, .int .i64 0, .int .i64 0, .int .i64 0] 26)))
    clear HB2 HG2
    go_wp2_with (first | ((with_reducible refine Bank.wpl_store_new 6 20 _ _ ?_ ?_ ?_ ?_ Bank.noBank_size Bank.noBank_size Bank.noBank_one ?_); rfl; rfl; rfl; rfl) | ((with_reducible refine Bank.wpl_load 2 ?_ ?_ _ ?_ _ _ HGA.out HS.out ?_); rfl; rfl; rfl))
    refine (MT.out _).mono ?_
    rintro e w3 ⟨rfl, hb3⟩
    have HB3 := hide (below_on HBA.out hb3)
    have HG3 := hide (blk_below HGA.out hb3)
    have HX3 := hide (blk_below HX2.out hb3)
    have HN3 := hide (blk_below HN2.out hb3)
    clear hb3 HBA HGA HX2 HN2 MT
    cases ho : okAll ys with
    | false =>
      rw [bankE_bad ho, errV_one] at BK
      clear HOK ho
      go_wp2_with (first | ((with_reducible refine Bank.wpl_load 8 ?_ ?_ _ ?_ _ _ HN3.out Bank.noBank_size ?_); rfl; rfl; rfl) | ((with_reducible refine Bank.wpl_load 6 ?_ ?_ _ ?_ _ _ HX3.out Bank.noBank_size ?_); rfl; rfl; rfl) | ((with_reducible refine Bank.wpl_load 2 ?_ ?_ _ ?_ _ _ HG3.out HS.out ?_); rfl; rfl; rfl))
      refine (BK.out _).mono ?_
      rintro e w4 ⟨rfl, hb4⟩
      have HB4 := hide (below_on HB3.out hb4)
      clear hb4
      go_wp2
      go_ret
      exact ⟨rfl, HB4.out⟩
    | true =>
      have hmk := isMask_false.1 (show isMask m = false by cases h : isMask m with
        | false => rfl
        | true => exact absurd ⟨ho, h⟩ HOK.out)
      rw [bankE_ok ho, errV_zero] at BK
      clear HOK ho
      by_cases h0 : m < 0
      · clear hmk
        go_wp2_with (first | ((with_reducible refine Bank.wpl_load 8 ?_ ?_ _ ?_ _ _ HN3.out Bank.noBank_size ?_); rfl; rfl; rfl) | ((with_reducible refine Bank.wpl_load 6 ?_ ?_ _ ?_ _ _ HX3.out Bank.noBank_size ?_); rfl; rfl; rfl) | ((with_reducible refine Bank.wpl_load 2 ?_ ?_ _ ?_ _ _ HG3.out HS.out ?_); rfl; rfl; rfl))
        refine (BK.out _).mono ?_
        rintro e w4 ⟨rfl, hb4⟩
        have HB4 := hide (below_on HB3.out hb4)
        clear hb4
        go_wp2
        go_ret
        exact ⟨rfl, HB4.out⟩
      · have h1 : 255 < m := by omega
        clear hmk
        go_wp2_with (first | ((with_reducible refine Bank.wpl_load 8 ?_ ?_ _ ?_ _ _ HN3.out Bank.noBank_size ?_); rfl; rfl; rfl) | ((with_reducible refine Bank.wpl_load 6 ?_ ?_ _ ?_ _ _ HX3.out Bank.noBank_size ?_); rfl; rfl; rfl) | ((with_reducible refine Bank.wpl_load 2 ?_ ?_ _ ?_ _ _ HG3.out HS.out ?_); rfl; rfl; rfl))
        refine (BK.out _).mono ?_
        rintro e w4 ⟨rfl, hb4⟩
        have HB4 := hide (below_on HB3.out hb4)
        clear hb4
        go_wp2
        go_ret
        exact ⟨rfl, HB4.out⟩
end Go.Proofs.Yteebkpjnihffiaa.EventNone
