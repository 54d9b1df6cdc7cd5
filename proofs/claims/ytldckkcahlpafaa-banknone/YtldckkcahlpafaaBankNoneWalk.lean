/-
  The walk of stairlaw4.BankNone: it returns true for every two banks, and memory that was there stays as it was.
-/
import Derived.Test.YtldckkcahlpafaaBank2
namespace Go.Proofs.Ytldckkcahlpafaa.BankNoneWalk
open Go.ChangeShapes Go.WideShapes Go.ChangeAt Go.RowKit
open Go.Proofs.Ytldckkcahlpafaa.M Go.Proofs.Ytldckkcahlpafaa.Bank
set_option linter.unusedVariables false

theorem asked_none : askedL 0 8 = [] := by decide
theorem mask_none : isMask 0 = true := by decide
theorem one_bad {xs ys : List Int} (h : ¬ (okAll xs = true ∧ okAll ys = true)) : okAll xs = false ∨ (okAll xs = true ∧ okAll ys = false) := by
  cases hx : okAll xs with
  | false => exact Or.inl rfl
  | true => cases hy : okAll ys with
    | false => exact Or.inr ⟨rfl, rfl⟩
    | true => exact absurd ⟨hx, hy⟩ h

set_option maxHeartbeats 2000000 in
theorem walk (xs ys : List Int) (c d : Array Value) (w : World) (hc : c = bankC xs) (hd : d = bankC ys) (hx : xs.length = 8) (hy : ys.length = 8) :
    Calls Try.prog 4 #[.agg c, .agg d] w fun e w' => e = .returned (.bool true) ∧ Below w.heap.size w w' := by
  have HC := hide hc
  have HD := hide hd
  have HX := hide hx
  have HY := hide hy
  have HSC := hide (show c.size = 8 by rw [hc, bankC_size, hx])
  have HSD := hide (show d.size = 8 by rw [hd, bankC_size, hy])
  have HG := hide (heap_alloc2_old w (.cells c 23) (.cells d 23))
  have HK := hide (heap_alloc2_new w (.cells c 23) (.cells d 23))
  have HB0 := hide (((Below.refl _ w).alloc (Nat.le_refl _) (.cells c 23)).alloc (by simp) (.cells d 23))
  clear hc hd hx hy
  go_enter Try.func4, Try.ntmps4
  go_wp2_with (first | ((with_reducible refine wpl_load 2 ?_ ?_ _ ?_ _ _ HG.out HSC.out ?_); rfl; rfl; rfl) | ((with_reducible refine wpl_load 3 ?_ ?_ _ ?_ _ _ HK.out HSD.out ?_); rfl; rfl; rfl))
  refine (same_any xs ys c d 0 _ HC.out HD.out HX.out HY.out).mono ?_
  rintro e w1 ⟨rfl, hb1⟩
  have HB1 := hide (HB0.out.trans (hb1.mono (by simp; omega)))
  have HG1 := hide (heap_below HG.out hb1 (heap_lt HG.out))
  have HK1 := hide (heap_below HK.out hb1 (heap_lt HK.out))
  clear hb1 HG HK HB0
  by_cases h : okAll xs = true ∧ okAll ys = true
  · have E1 := hide (digE_ok h.1 mask_none)
    have E2 := hide (digV_ok h.1 mask_none)
    rw [sameE_ok h.1 h.2 mask_none, sameV_ok h.1 h.2 mask_none, errV_zero, show M.differ xs ys 0 = false from by unfold M.differ; rw [asked_none]; rfl, Bool.not_false]
    clear h
    go_wp2_with ((with_reducible refine wpl_load 2 ?_ ?_ _ ?_ _ _ HG1.out HSC.out ?_); rfl; rfl; rfl)
    refine (digest_any xs c 0 _ HC.out HX.out).mono ?_
    rintro e w2 ⟨rfl, hb2⟩
    have HB2 := hide (HB1.out.trans (hb2.mono HB1.out.size))
    clear hb2
    rw [E1.out, E2.out, asked_none, errV_zero, show allFrom 0 (pick xs []) = 0 from rfl]
    go_wp2
    go_ret
    exact ⟨rfl, HB2.out⟩
  · rw [sameE_bad (fun hn => h ⟨hn.1, hn.2.1⟩), sameV_bad (fun hn => h ⟨hn.1, hn.2.1⟩), errV_one]
    have H := hide (one_bad h)
    clear h
    go_wp2_with ((with_reducible refine wpl_load 2 ?_ ?_ _ ?_ _ _ HG1.out HSC.out ?_); rfl; rfl; rfl)
    refine (check_any xs c _ HC.out HX.out).mono ?_
    rintro e w2 ⟨rfl, hb2⟩
    have HB2 := hide (HB1.out.trans (hb2.mono HB1.out.size))
    have HK2 := hide (heap_below HK1.out hb2 (heap_lt HK1.out))
    clear hb2
    rcases H.out with h | ⟨h, h'⟩
    · rw [bankE_bad h, errV_one]
      clear h
      go_wp2
      go_ret
      exact ⟨rfl, HB2.out⟩
    · rw [bankE_ok h, errV_zero]
      have E := hide (bankE_bad h')
      clear h h'
      go_wp2_with ((with_reducible refine wpl_load 3 ?_ ?_ _ ?_ _ _ HK2.out HSD.out ?_); rfl; rfl; rfl)
      refine (check_any ys d _ HD.out HY.out).mono ?_
      rintro e w3 ⟨rfl, hb3⟩
      have HB3 := hide (HB2.out.trans (hb3.mono HB2.out.size))
      clear hb3
      rw [E.out, errV_one]
      go_wp2
      go_ret
      exact ⟨rfl, HB3.out⟩
end Go.Proofs.Ytldckkcahlpafaa.BankNoneWalk
