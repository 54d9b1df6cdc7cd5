/-
  The walk of stairlaw1.BankForward: it returns true for every two banks and every number, and memory that was there stays as it was.
-/
import Derived.Test.YtldckkcahlpafaaBank4
import Derived.BigQuiet
import Derived.WalkSmall
import Derived.Deep.DeepCutAuto
namespace Go.Proofs.Ytldckkcahlpafaa.Forward
open Go.ChangeShapes Go.WideShapes Go.ChangeAt Go.RowKit
open Go.Proofs.Ytldckkcahlpafaa.M Go.Proofs.Ytldckkcahlpafaa.Bank
set_option linter.unusedVariables false

theorem fact_v : bankC (extV noBank 3 5) = #[.int .i64 0, .int .i64 0, .int .i64 0, .int .i64 6, .int .i64 0, .int .i64 0, .int .i64 0, .int .i64 0] := by
  rw [show extV noBank 3 5 = [0, 0, 0, 6, 0, 0, 0, 0] from by decide]; rfl
theorem fact_e : extE noBank 3 5 = 0 := by decide
theorem fact_one : (#[.int .i64 0, .int .i64 0, .int .i64 0, .int .i64 6, .int .i64 0, .int .i64 0, .int .i64 0, .int .i64 0] : Array Value).all (·.oneCell') = true := bankC_one [0, 0, 0, 6, 0, 0, 0, 0]

set_option maxRecDepth 20000 in
set_option maxHeartbeats 4000000 in
theorem walk (xs ys : List Int) (c d : Array Value) (i m k mask : Int) (w : World) (hc : c = bankC xs) (hd : d = bankC ys) (hx : xs.length = 8) (hy : ys.length = 8) :
    Calls Try.prog 3 #[.agg c, .int .i64 i, .int .i64 m, .int .i64 k, .int .i64 mask, .agg d] w fun e w' => e = .returned (.bool true) ∧ Below w.heap.size w w' := by
  have HC := hide hc
  have HD := hide hd
  have HX := hide hx
  have HY := hide hy
  have HSC := hide (show c.size = 8 by rw [hc, bankC_size, hx])
  have HSD := hide (show d.size = 8 by rw [hd, bankC_size, hy])
  have HG0 := hide (heap_keep (heap_alloc2_old w (.cells c 23) (.cells d 23)) (.cells #[.int .i64 0, .int .i64 0, .int .i64 0, .int .i64 0, .int .i64 0, .int .i64 0, .int .i64 0, .int .i64 0] 23))
  have HK0 := hide (heap_keep (heap_alloc2_new w (.cells c 23) (.cells d 23)) (.cells #[.int .i64 0, .int .i64 0, .int .i64 0, .int .i64 0, .int .i64 0, .int .i64 0, .int .i64 0, .int .i64 0] 23))
  have HB0 := hide ((((Below.refl _ w).alloc (Nat.le_refl _) (.cells c 23)).alloc (by simp) (.cells d 23)).alloc (by simp; omega) (.cells #[.int .i64 0, .int .i64 0, .int .i64 0, .int .i64 0, .int .i64 0, .int .i64 0, .int .i64 0, .int .i64 0] 23))
  clear hc hd hx hy
  go_enter Try.func3, Try.ntmps3
  go_wp2_with (fail)
  refine (extend_any noBank _ 3 5 _ rfl rfl).mono ?_
  rintro e w1 ⟨rfl, hb1⟩
  rw [fact_v, fact_e, errV_zero]
  have HB1 := hide (HB0.out.trans (hb1.mono (by simp; omega)))
  have HG1 := hide (heap_below HG0.out hb1 (heap_lt HG0.out))
  have HK1 := hide (heap_below HK0.out hb1 (heap_lt HK0.out))
  have siz1 := HB1.out.size
  clear hb1 HG0 HK0 HB0
  have HGA := hide (heap_keep HG1.out (.cells #[.int .i64 0, .int .i64 0, .int .i64 0, .int .i64 6, .int .i64 0, .int .i64 0, .int .i64 0, .int .i64 0] 23))
  go_wp2_with (first | ((with_reducible refine wpl_store_new 14 30 _ _ ?_ ?_ ?_ ?_ noBank_size rfl fact_one ?_); rfl; rfl; rfl; rfl) | ((with_reducible refine wpl_load 6 ?_ ?_ _ ?_ _ _ HGA.out HSC.out ?_); rfl; rfl; rfl))
  refine (extend_any xs c i m _ HC.out HX.out).mono ?_
  rintro e w2 ⟨rfl, hb2⟩
  have HB2 := hide ((HB1.out.alloc siz1 _).trans (hb2.mono (by simp; omega)))
  have HG2 := hide (heap_below HGA.out hb2 (heap_lt HGA.out))
  have HK2 := hide (heap_below (heap_keep HK1.out _) hb2 (heap_lt (heap_keep HK1.out _)))
  have siz2 := HB2.out.size
  clear hb2 HGA HG1 HK1 HB1
  have HS1 := hide (show (bankC (extV xs i m)).size = 8 by rw [bankC_size, extV_len HX.out])
  cases hok : extOk xs i m with
  | false =>
    rw [extE_bad hok, errV_one]
    clear hok
    go_wp2_with ((with_reducible refine wpl_store_new 16 49 _ _ ?_ ?_ ?_ ?_ noBank_size HS1.out (bankC_one _) ?_); rfl; rfl; rfl; rfl)
    go_ret
    exact ⟨rfl, HB2.out.alloc siz2 _⟩
  | true =>
    rw [extE_ok hok, errV_zero]
    have HOK := hide hok
    clear hok
    go_wp2_with ((with_reducible refine wpl_store_new 16 49 _ _ ?_ ?_ ?_ ?_ noBank_size HS1.out (bankC_one _) ?_); rfl; rfl; rfl; rfl)
    have HBX := hide (HB2.out.alloc siz2 (.cells (bankC (extV xs i m)) 23))
    have HGX := hide (heap_keep HG2.out (.cells (bankC (extV xs i m)) 23))
    have HKX := hide (heap_keep HK2.out (.cells (bankC (extV xs i m)) 23))
    have HNX := hide (heap_alloc_new w2 (.cells (bankC (extV xs i m)) 23))
    clear HG2 HK2 HB2
    have HWX := hide (Below.refl (w2.alloc (.cells (bankC (extV xs i m)) 23)).heap.size (w2.alloc (.cells (bankC (extV xs i m)) 23)))
    go_loopw [18] (fun s18 wr => ∃ j : Nat, j ≤ 8 ∧ s18 = .int .i64 j ∧ Hid (Below (w2.alloc (.cells (bankC (extV xs i m)) 23)).heap.size (w2.alloc (.cells (bankC (extV xs i m)) 23)) wr)) (fun s18 _ => 8 - (intOf s18).toNat)
    case atStart => exact ⟨0, by omega, rfl, HWX⟩
    case round =>
      obtain ⟨j, hj, rfl, HBR⟩ := hrel
      have HGR := hide (heap_below HGX.out HBR.out (heap_lt HGX.out))
      have HKR := hide (heap_below HKX.out HBR.out (heap_lt HKX.out))
      have HNR := hide (heap_below HNX.out HBR.out (heap_lt HNX.out))
      have HBW := hide (HBX.out.trans (HBR.out.mono HBX.out.size))
      by_cases hlt : j < 8
      · obtain ⟨x, hx⟩ : ∃ x, xs[j]? = some x := ⟨_, List.getElem?_eq_getElem (by have := HX.out; omega)⟩
        by_cases hji : (j : Int) = i
        · have hd : ((j : Int) != i) = false := by rw [hji]; exact bne_self_eq_false i
          clear hx hji
          go_wp2
          go_quiet (fail)
          go_wp2
          go_roundw
          case rel => exact ⟨j + 1, by omega, by go_num, below_drewN HBR.out _⟩
          case measure => simp [intOf]; omega
        · have hd : ((j : Int) != i) = true := by simp [hji]
          have hc1 : wr.cell? ⟨w.heap.size, j, none⟩ = some (.int .i64 x) := bank_cell (xs := xs) (t := 23) (fr := (0, 0)) (by rw [← HC.out]; exact HGR.out) hx
          have hc2 : wr.cell? ⟨w2.heap.size, j, none⟩ = some (.int .i64 x) := bank_cell HNR.out (by rw [extV_other HOK.out hji]; exact hx)
          clear hx hji
          go_wp2
          go_quiet (fail)
          go_wp2
          go_roundw
          case rel => exact ⟨j + 1, by omega, by go_num, below_drewN HBR.out _⟩
          case measure => simp [intOf]; omega
      · have hj8 : j = 8 := by omega
        subst hj8
        have sizR := HBW.out.size
        clear HBX HGX HKX HNX HBR hlt hj
        go_wp2_with ((with_reducible refine wpl_load 6 ?_ ?_ _ ?_ _ _ HGR.out HSC.out ?_); rfl; rfl; rfl)
        refine (extend_any xs c i k _ HC.out HX.out).mono ?_
        rintro e w3 ⟨rfl, hb3⟩
        have HB3 := hide (HBW.out.trans (hb3.mono sizR))
        have HG3 := hide (heap_below HGR.out hb3 (heap_lt HGR.out))
        have HK3 := hide (heap_below HKR.out hb3 (heap_lt HKR.out))
        have HN3 := hide (heap_below HNR.out hb3 (heap_lt HNR.out))
        have siz3 := HB3.out.size
        clear hb3 HGR HKR HNR HBW
        have HS2 := hide (show (bankC (extV xs i k)).size = 8 by rw [bankC_size, extV_len HX.out])
        go_upto_region 14 with ((with_reducible refine wpl_store_new 19 74 _ _ ?_ ?_ ?_ ?_ noBank_size HS2.out (bankC_one _) ?_); rfl; rfl; rfl; rfl)
        have HBY := hide (HB3.out.alloc siz3 (.cells (bankC (extV xs i k)) 23))
        have HGY := hide (heap_keep HG3.out (.cells (bankC (extV xs i k)) 23))
        have HKY := hide (heap_keep HK3.out (.cells (bankC (extV xs i k)) 23))
        have HNY := hide (heap_keep HN3.out (.cells (bankC (extV xs i k)) 23))
        have HMY := hide (heap_alloc_new w3 (.cells (bankC (extV xs i k)) 23))
        clear HB3 HG3 HK3 HN3
        go_cut [17, 69, 73, 75, 76, 86] (fun _ _ _ _ _ s86 w4 => s86 = .bool false ∧ w4 = w3.alloc (.cells (bankC (extV xs i k)) 23))
        case first =>
          cases hk : extOk xs i k with
          | false =>
            rw [extE_bad hk, errV_one]
            go_wp2
            go_meet
            exact ⟨rfl, rfl⟩
          | true =>
            have heq : ∀ w, (Op.equalIn 10000 23 (.agg (bankC (extV xs i m))) (.agg (bankC (extV xs i k)))).run Try.prog w = .ok (m == k) w := fun w => by
              rw [eq_bank (extV_len HX.out i m) (extV_len HX.out i k) w, extV_eq HX.out HOK.out hk]
            rw [extE_ok hk, errV_zero]
            go_wp2_with (first | ((with_reducible refine wpl_load 16 ?_ ?_ _ ?_ _ _ HNY.out HS1.out ?_); rfl; rfl; rfl) | ((with_reducible refine wpl_load 19 ?_ ?_ _ ?_ _ _ HMY.out HS2.out ?_); rfl; rfl; rfl))
            go_meet
            exact ⟨by simp, rfl⟩
        case rest =>
        obtain ⟨rfl, rfl⟩ := hcut
        clear HNY HMY HS1 HS2
        go_wp2_with (first | ((with_reducible refine wpl_load 6 ?_ ?_ _ ?_ _ _ HGY.out HSC.out ?_); rfl; rfl; rfl) | ((with_reducible refine wpl_load 11 ?_ ?_ _ ?_ _ _ HKY.out HSD.out ?_); rfl; rfl; rfl))
        refine (same_any xs ys c d mask _ HC.out HD.out HX.out HY.out).mono ?_
        rintro e w4 ⟨rfl, hb4⟩
        have HB4 := hide (HBY.out.trans (hb4.mono HBY.out.size))
        have HG4 := hide (heap_below HGY.out hb4 (heap_lt HGY.out))
        have HK4 := hide (heap_below HKY.out hb4 (heap_lt HKY.out))
        clear hb4 HGY HKY HBY
        by_cases h : okAll xs = true ∧ okAll ys = true ∧ isMask mask = true
        · have H := hide h
          rw [sameE_ok h.1 h.2.1 h.2.2, errV_zero, sameV_ok h.1 h.2.1 h.2.2]
          clear h
          go_wp2_with ((with_reducible refine wpl_load 6 ?_ ?_ _ ?_ _ _ HG4.out HSC.out ?_); rfl; rfl; rfl)
          refine (digest_any xs c mask _ HC.out HX.out).mono ?_
          rintro e w5 ⟨rfl, hb5⟩
          have HB5 := hide (HB4.out.trans (hb5.mono HB4.out.size))
          have HG5 := hide (heap_below HG4.out hb5 (heap_lt HG4.out))
          have HK5 := hide (heap_below HK4.out hb5 (heap_lt HK4.out))
          clear hb5 HG4 HK4 HB4
          rw [digE_ok H.out.1 H.out.2.2, errV_zero, digV_ok H.out.1 H.out.2.2]
          go_wp2_with ((with_reducible refine wpl_load 11 ?_ ?_ _ ?_ _ _ HK5.out HSD.out ?_); rfl; rfl; rfl)
          refine (digest_any ys d mask _ HD.out HY.out).mono ?_
          rintro e w6 ⟨rfl, hb6⟩
          have HB6 := hide (HB5.out.trans (hb6.mono HB5.out.size))
          have HG6 := hide (heap_below HG5.out hb6 (heap_lt HG5.out))
          have HK6 := hide (heap_below HK5.out hb6 (heap_lt HK5.out))
          clear hb6 HG5 HK5 HB5
          rw [digE_ok H.out.2.1 H.out.2.2, errV_zero, digV_ok H.out.2.1 H.out.2.2]
          go_wp2_with (first | ((with_reducible refine wpl_load 6 ?_ ?_ _ ?_ _ _ HG6.out HSC.out ?_); rfl; rfl; rfl) | ((with_reducible refine wpl_load 11 ?_ ?_ _ ?_ _ _ HK6.out HSD.out ?_); rfl; rfl; rfl))
          refine (same_any xs ys c d 255 _ HC.out HD.out HX.out HY.out).mono ?_
          rintro e w7 ⟨rfl, hb7⟩
          have HB7 := hide (HB6.out.trans (hb7.mono HB6.out.size))
          have HG7 := hide (heap_below HG6.out hb7 (heap_lt HG6.out))
          have HK7 := hide (heap_below HK6.out hb7 (heap_lt HK6.out))
          clear hb7 HG6 HK6 HB6
          rw [sameE_ok H.out.1 H.out.2.1 mask_all, errV_zero, sameV_ok H.out.1 H.out.2.1 mask_all, differ_all HX.out HY.out]
          have heq : ∀ w, (Op.equalIn 10000 23 (.agg c) (.agg d)).run Try.prog w = .ok (decide (xs = ys)) w := fun w => by
            rw [HC.out, HD.out]; exact eq_bank HX.out HY.out w
          cases hdf : M.differ xs ys mask with
          | false =>
            rw [pick_same hdf, Bool.not_false]
            clear hdf
            cases hal : decide (xs = ys) with
            | true =>
              rw [hal] at heq
              clear hal
              go_wp2_with (first | ((with_reducible refine wpl_load 6 ?_ ?_ _ ?_ _ _ HG7.out HSC.out ?_); rfl; rfl; rfl) | ((with_reducible refine wpl_load 11 ?_ ?_ _ ?_ _ _ HK7.out HSD.out ?_); rfl; rfl; rfl))
              go_ret
              exact ⟨rfl, HB7.out⟩
            | false =>
              rw [hal] at heq
              clear hal
              go_wp2_with (first | ((with_reducible refine wpl_load 6 ?_ ?_ _ ?_ _ _ HG7.out HSC.out ?_); rfl; rfl; rfl) | ((with_reducible refine wpl_load 11 ?_ ?_ _ ?_ _ _ HK7.out HSD.out ?_); rfl; rfl; rfl))
              go_ret
              exact ⟨rfl, HB7.out⟩
          | true =>
            have hne : xs ≠ ys := fun e => by rw [e, differ_self] at hdf; cases hdf
            rw [decide_eq_false hne, Bool.not_true]
            have heq' : ∀ w, (Op.equalIn 10000 23 (.agg c) (.agg d)).run Try.prog w = .ok false w := fun w => by rw [heq w, decide_eq_false hne]
            clear heq hdf hne
            go_wp2_with (first | ((with_reducible refine wpl_load 6 ?_ ?_ _ ?_ _ _ HG7.out HSC.out ?_); rfl; rfl; rfl) | ((with_reducible refine wpl_load 11 ?_ ?_ _ ?_ _ _ HK7.out HSD.out ?_); rfl; rfl; rfl))
            go_ret
            exact ⟨rfl, HB7.out⟩
        · rw [sameE_bad h, errV_one]
          clear h
          go_wp2
          go_ret
          exact ⟨rfl, HB4.out⟩
end Go.Proofs.Ytldckkcahlpafaa.Forward
