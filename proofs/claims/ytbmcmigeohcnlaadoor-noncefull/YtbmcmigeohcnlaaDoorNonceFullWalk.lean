/-
  The walk of stairlaw4.NonceFull: it returns true, and memory that was there stays as it was.
-/
import Derived.Test.YtbmcmigeohcnlaaDoorNonce1
import Derived.Test.YtbmcmigeohcnlaaDoorAs
namespace Go.Proofs.YtbmcmigeohcnlaaDoor.NonceFull
open Go.ChangeShapes Go.WideShapes Go.ChangeAt Go.RowKit
open Go.Proofs.YtbmcmigeohcnlaaDoor.M Go.Proofs.YtbmcmigeohcnlaaDoor.Nonce
set_option linter.unusedVariables false

set_option maxHeartbeats 4000000 in
theorem walk (s m : Int) (w : World) (hg : As.Handle w) :
    Calls Tryd.prog 4 #[.int .i64 s, .int .i64 m] w fun e w' => e = .returned (.bool true) ∧ Below w.heap.size w w' := by
  have HH := hide (fun (W : World) (h : Below w.heap.size w W) => hg.below h)
  clear hg
  cases hs : isM s with
  | false =>
    have NO := hide (fun W => new_no s W hs)
    have sr := isM_false.1 hs
    have hd : (decide (s < 0) || decide (1000002 < s)) = true := by
      rw [Bool.or_eq_true, decide_eq_true_iff, decide_eq_true_iff]; omega
    clear sr hs
    go_enter Tryd.func4, Tryd.ntmps4
    go_wp2_with (fail)
    refine (NO.out _).mono ?_
    rintro e w1 ⟨rfl, hb1⟩
    have HB1 := hide hb1
    clear hb1
    go_wp2
    all_goals go_ret
    all_goals exact ⟨rfl, HB1.out⟩
  | true =>
    have NE := hide (new_ok s w w.heap.size hs (Nat.le_refl _))
    clear hs
    go_enter Tryd.func4, Tryd.ntmps4
    go_wp2_with (fail)
    refine NE.out.mono ?_
    rintro e w1 ⟨p, S0, rfl, hn1, _, hb1⟩
    have HN1 := hide hn1
    have HB1 := hide hb1
    clear hn1 hb1 NE
    go_wp2
    go_loopw [7, 8, 9] (fun s7 _ _ wr => ∃ (i : Nat) (S : Nat → Prop) (last : Int) (xs : List Int), i ≤ 12 ∧ s7 = .int .i64 i ∧ Hid (Non wr w.heap.size p S last ((min i 8 : Nat) : Int) xs) ∧ Hid (xs.length = min i 8) ∧ Hid (Below w.heap.size w wr)) (fun s7 _ _ _ => 12 - (intOf s7).toNat)
    case atStart => exact ⟨0, S0, s, [], by omega, rfl, HN1.out, rfl, HB1.out⟩
    case round =>
      obtain ⟨i, S, last, xs, hi, rfl, HN, HL, HB⟩ := hrel
      have hsz := HB.out.size
      by_cases hlt : (i : Int) < m ∧ i < 12
      · obtain ⟨hm, h12⟩ := hlt
        have h12z : (i : Int) < 12 := by omega
        by_cases h8 : i < 8
        · have h8z : (i : Int) < 8 := by omega
          have e8 : min i 8 = i := by omega
          rw [e8] at HN HL
          go_wp2_with (fail)
          refine (issue_ok p S last i xs _ w.heap.size HN.out (by rw [HL.out]; exact h8) (by omega) hsz).mono ?_
          rintro e w2 ⟨S2, rfl, hn2, ho2, hf2⟩
          have HN2 := hide hn2
          have HL2 := hide (show (xs ++ [stp 7919 last i]).length = min (i + 1) 8 by rw [List.length_append, HL.out]; simp; omega)
          have HB2 := hide (HB.out.trans (ho2.below hsz (fun k hk => (HN.out.has k hk).1)))
          have HM2 := hide (show ((i : Int) + 1) = ((min (i + 1) 8 : Nat) : Int) by omega)
          rw [HM2.out] at HN2
          clear hn2 ho2 hf2
          go_wp2
          go_roundw
          case rel => exact ⟨i + 1, S2, _, _, by omega, by go_num, HN2.out, HL2.out, HB2.out⟩
          case measure => simp [intOf]; omega
        · have h8z : ¬ (i : Int) < 8 := by omega
          have HL8 := hide (show 8 ≤ xs.length by rw [HL.out]; omega)
          have hmin : min (i + 1) 8 = min i 8 := by omega
          go_wp2_with (fail)
          refine (issue_full p S last _ xs _ w.heap.size HN.out (Or.inl HL8.out)).mono ?_
          rintro e w2 ⟨rfl, hb2⟩
          have HN2 := hide (HN.out.below hb2)
          have HB2 := hide (HB.out.trans (hb2.mono hsz))
          clear hb2
          go_wp2_with (fail)
          refine (As.same_err 4 4 _ (HH.out _ HB2.out)).mono ?_
          rintro e w3 ⟨rfl, hb3⟩
          have HN3 := hide (HN2.out.below hb3)
          have HB3 := hide (HB2.out.trans (hb3.mono HB2.out.size))
          clear hb3
          rw [← hmin] at HN3 HL
          clear hmin
          go_wp2
          go_roundw
          case rel => exact ⟨i + 1, S, _, _, by omega, by go_num, HN3.out, HL.out, HB3.out⟩
          case measure => simp [intOf]; omega
      · have HL8 := hide (show (xs.length : Int) ≤ 8 by rw [HL.out]; omega)
        by_cases hm : (i : Int) < m
        · have h12z : ¬ (i : Int) < 12 := by omega
          clear hlt
          go_wp2_with (fail)
          refine (open_any p S last _ xs _ w.heap.size HN.out).mono ?_
          rintro e w2 ⟨rfl, hb2⟩
          have HB2 := hide (HB.out.trans (hb2.mono hsz))
          have h8z := HL8.out
          clear hb2
          go_wp2
          go_ret
          exact ⟨rfl, HB2.out⟩
        · clear hlt
          go_wp2_with (fail)
          refine (open_any p S last _ xs _ w.heap.size HN.out).mono ?_
          rintro e w2 ⟨rfl, hb2⟩
          have HB2 := hide (HB.out.trans (hb2.mono hsz))
          have h8z := HL8.out
          clear hb2
          go_wp2
          go_ret
          exact ⟨rfl, HB2.out⟩
end Go.Proofs.YtbmcmigeohcnlaaDoor.NonceFull
