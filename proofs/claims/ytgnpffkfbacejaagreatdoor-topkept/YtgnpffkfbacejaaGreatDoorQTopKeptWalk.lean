/-
  The walk of stairtop.TopKept: it returns true, and memory that was there stays as it was.
-/
import Derived.Test.YtgnpffkfbacejaaGreatDoorPack1
import Derived.Test.YtgnpffkfbacejaaGreatDoorQJudgeLaw
import Derived.Test.YtgnpffkfbacejaaGreatDoorQJudgeMeansMath
import Derived.Test.YtgnpffkfbacejaaGreatDoorQQuote1
import Derived.Test.YtgnpffkfbacejaaGreatDoorQTopOne
import Derived.Test.YtgnpffkfbacejaaGreatDoorQCells
import Derived.Test.YtgnpffkfbacejaaGreatDoorQAs
import Derived.Deep.DeepCutAuto
import Derived.Deep.CutBlock
namespace Go.Proofs.YtgnpffkfbacejaaGreatDoor.TopKept
open Go.ChangeShapes Go.WideShapes Go.ChangeAt Go.RowKit
open Go.Proofs.YtgnpffkfbacejaaGreatDoor.M Go.Proofs.YtgnpffkfbacejaaGreatDoor.Log Go.Proofs.YtgnpffkfbacejaaGreatDoor.Image
set_option linter.unusedVariables false

theorem errV_no {T : TypeId} {k : Int} (h : ¬ k = 0) : errV T k = .iface T (.int .i64 k) := if_neg h
theorem none_sure {x k n : Int} (h : quoE x k n 0 noBank = 0) : surE (pwZ 64 x) (quoV x k n 0 noBank) n [] (rulesL []) = 0 :=
  (sur_own (x := x) (k := k) (n := n) (m := 0) (es := []) (rl := []) h rfl rfl).2 rfl

set_option maxRecDepth 20000 in
set_option maxHeartbeats 8000000 in
theorem walk {Lg : World → Nat → Value → (Nat → Prop) → LS → Prop} (LL : Core Lg) (RL : RaiseLaw Lg) (SL : SyncLaw Lg) (FL : FailLaw Lg) (CL : CrashLaw Lg) (LE : LeastLaw Lg) (JL : Judge.SureLaw)
    (nm : ByteArray) (a1 : Option Addr) (n1 c1 : Nat) (vs : List Int) (fail keep x k n : Int) (w : World)
    (hz : nm.size ≤ 140737488351232) (hn1 : n1 = vs.length) (hm1 : n1 ≤ maxLen) (hr1 : Row w a1 vs) (hfl : fail ≤ 9223372036854775807) (hh : Has w) (hg : As.Handle w) :
    Calls Tryz.prog 4 #[.string nm, .slice a1 n1 c1, .int .i64 fail, .int .i64 keep, .int .i64 x, .int .i64 k, .int .i64 n] w fun e w' => e = .returned (.bool true) ∧ Below w.heap.size w w' := by
  have HLL := hide LL
  have HRL := hide RL
  have HSL := hide SL
  have HCL := hide CL
  have HLE := hide LE
  have HFL := hide FL
  have HJL := hide JL
  have HZ := hide hz
  have HN1 := hide hn1
  have HR1 := hide hr1
  have hm1' : n1 ≤ 9223372036854775807 := by unfold maxLen at hm1; omega
  have HG := hide (fun (W : World) (h : Below w.heap.size w W) => hg.below h)
  have HH := hide (fun (W : World) (h : Below w.heap.size w W) => hh.below h)
  have HFB := hide hfl
  have ON := hide (fun (W : World) (h : Below w.heap.size w W) => Top.one_any W (hh.below h))
  have HS0 : Hid (M.Sep w w.heap.size [] w) := Sep.nil (Below.refl _ _) (Nat.le_refl _)
  have NW := hide (fun (W : World) (h : M.Sep w w.heap.size [] W) => sep_new HLL.out h)
  have QM := hide (fun (W : World) => Quote.make_any x k n 0 noBank #[.int .i64 0, .int .i64 0, .int .i64 0, .int .i64 0, .int .i64 0, .int .i64 0, .int .i64 0, .int .i64 0] W rfl rfl)
  have HK0 := hide (kp_new nm fail)
  clear LL RL SL FL CL LE JL hz hn1 hm1 hr1 hh hg hfl
  go_enter Tryz.func4, Tryz.ntmps4
  go_wp2_with (fail)
  refine (ON.out _ HS0.out.lo).mono ?_
  rintro e w1 ⟨rfl, hb1⟩
  have NW1 := hide (NW.out _ (HS0.out.below hb1))
  clear hb1 HS0 ON NW
  go_wp2_with (fail)
  refine NW1.out.mono ?_
  rintro e w2 ⟨p, S2, rfl, hd2⟩
  have FA := hide (sep_fai HFL.out hd2 fail HFB.out)
  clear hd2 NW1
  generalize faiT newL fail = j0 at *
  go_wp2_with (fail)
  refine FA.out.mono ?_
  rintro e w3 ⟨S3, rfl, hd3⟩
  have HS3 := hide hd3
  clear hd3 FA
  go_upto_block 0 with (fail)
  go_cut [17, 18, 19, 20] from 33 to 76 (fun s17 _ _ _ w' => ∃ (S : Nat → Prop) (j : LS) (most : Int) (i : Nat), s17 = .int .i64 most ∧ Hid (M.Sep w w.heap.size [logI HLL.out w.heap.size p S j] w') ∧ Hid (KpL nm most i j))
  case first =>
    go_wp2_with (fail)
    go_loopw [17, 18, 19, 20] (fun s17 s18 _ _ wr => ∃ (i : Nat) (S : Nat → Prop) (j : LS) (most : Int), i ≤ 25 ∧ s17 = .int .i64 most ∧ s18 = .int .i64 i ∧ Hid (M.Sep w w.heap.size [logI HLL.out w.heap.size p S j] wr) ∧ Hid (KpL nm most i j)) (fun _ s18 _ _ _ => 25 - (intOf s18).toNat)
    case atStart => exact ⟨0, S3, j0, 0, by omega, rfl, rfl, HS3.out, HK0.out⟩
    case round =>
      obtain ⟨i, S, j, most, h25, rfl, rfl, HS, HK⟩ := hrel
      clear HS3 HK0
      by_cases hlt : i < n1 ∧ i < 25
      · as_aux_lemma =>
        obtain ⟨hin, hi25⟩ := hlt
        have hinz : (i : Int) < n1 := by omega
        have hi25z : (i : Int) < 25 := by omega
        obtain ⟨v, hy⟩ : ∃ v, vs[i]? = some v := ⟨vs[i]'(by have := HN1.out; omega), List.getElem?_eq_getElem (by have := HN1.out; omega)⟩
        have HY := hide hy
        obtain ⟨b, off, rfl, hcell⟩ : ∃ b off, a1 = some ⟨b, off, none⟩ ∧ wr.cell? ⟨b, off + i, none⟩ = some (.int .i64 v) := by
          rcases HR1.out.below HS.out.lo with h | ⟨b, off, h1, h2⟩
          · rw [h] at hy; simp at hy
          · exact ⟨b, off, h1, h2 i v hy⟩
        clear hy
        have RA := hide (sep_rai HRL.out HS.out nm v HZ.out (HH.out _ HS.out.lo))
        have KR := hide (fun m => kp_raise (v := v) (n := m) HK.out hi25)
        clear HK
        cases hb : lraB j nm v with
        | true =>
          have hE := (KR.out 0).1 hb
          rw [hb, hE.2.1, errV_zero] at RA
          have hmv := hE.1
          have HKN := hide (fun m => ((KR.out m).1 hb).2.2)
          clear hE KR hb
          go_wp2_with (fail)
          refine RA.out.mono ?_
          rintro e w4 ⟨S4, n4, _, _, rfl, hd4⟩
          have HS4 := hide hd4
          have HK4 := hide (HKN.out n4)
          have SY := hide (sep_syn HSL.out hd4)
          have HKS := hide (kp_sync HK4.out)
          have hc4 : w4.cell? ⟨b, off + i, none⟩ = some (.int .i64 v) := by
            rcases HR1.out.below hd4.lo with h | ⟨b', off', h1, h2⟩
            · have := HY.out; rw [h] at this; simp at this
            · cases h1; exact h2 i v HY.out
          clear hd4 RA HKN HS hcell
          generalize lraT j nm v n4 = j4 at *
          generalize synT j4 = j5 at *
          by_cases h3 : i = 3
          · subst h3
            by_cases hsy : synE j4 = 0
            · rw [hsy, errV_zero] at SY
              go_wp2_with (fail)
              refine SY.out.mono ?_
              rintro e w5 ⟨S5, rfl, hd5⟩
              have HS5 := hide hd5
              clear hd5 SY HS4 hc4
              go_wp2
              go_roundw
              case rel => exact ⟨3 + 1, S5, j5, v, by omega, rfl, by go_num, HS5.out, HKS.out⟩
              case measure => simp [intOf]
            · rw [errV_no hsy] at SY
              go_wp2_with (fail)
              refine SY.out.mono ?_
              rintro e w5 ⟨S5, rfl, hd5⟩
              have HS5 := hide hd5
              clear hd5 SY HS4 hc4
              go_wp2
              go_meet
              exact ⟨S5, j5, v, 3 + 1, rfl, HS5, HKS⟩
          · have h3z : ((i : Int) == 3) = false := by simp; omega
            clear SY HKS
            go_wp2
            go_roundw
            case rel => exact ⟨i + 1, S4, j4, v, by omega, rfl, by go_num, HS4.out, HK4.out⟩
            case measure => simp [intOf]; omega
        | false =>
          rw [hb] at RA
          have HKN := hide (fun m => ((KR.out m).2 hb).1)
          have HNV := hide ((KR.out 0).2 hb).2
          clear KR hb
          go_wp2_with (fail)
          refine RA.out.mono ?_
          rintro e w4 ⟨S4, n4, _, _, rfl, hd4⟩
          have HS4 := hide hd4
          have HK4 := hide (HKN.out n4)
          have SY := hide (sep_syn HSL.out hd4)
          have HKS := hide (kp_sync HK4.out)
          have hc4 : w4.cell? ⟨b, off + i, none⟩ = some (.int .i64 v) := by
            rcases HR1.out.below hd4.lo with h | ⟨b', off', h1, h2⟩
            · have := HY.out; rw [h] at this; simp at this
            · cases h1; exact h2 i v HY.out
          clear hd4 RA HKN HS hcell
          generalize lraT j nm v n4 = j4 at *
          generalize synT j4 = j5 at *
          generalize hle : lraE j nm v = le at *
          clear hle
          by_cases hl0 : le = 0
          · subst hl0
            rw [errV_zero]
            have hdv : decide (most < v) = false := decide_eq_false (by have := HNV.out rfl; omega)
            clear HNV
            by_cases h3 : i = 3
            · subst h3
              by_cases hsy : synE j4 = 0
              · rw [hsy, errV_zero] at SY
                go_wp2_with (fail)
                refine SY.out.mono ?_
                rintro e w5 ⟨S5, rfl, hd5⟩
                have HS5 := hide hd5
                clear hd5 SY HS4 hc4
                go_wp2
                go_roundw
                case rel => exact ⟨3 + 1, S5, j5, most, by omega, rfl, by go_num, HS5.out, HKS.out⟩
                case measure => simp [intOf]
              · rw [errV_no hsy] at SY
                go_wp2_with (fail)
                refine SY.out.mono ?_
                rintro e w5 ⟨S5, rfl, hd5⟩
                have HS5 := hide hd5
                clear hd5 SY HS4 hc4
                go_wp2
                go_meet
                exact ⟨S5, j5, most, 3 + 1, rfl, HS5, HKS⟩
            · have h3z : ((i : Int) == 3) = false := by simp; omega
              clear SY HKS
              go_wp2
              go_roundw
              case rel => exact ⟨i + 1, S4, j4, most, by omega, rfl, by go_num, HS4.out, HK4.out⟩
              case measure => simp [intOf]; omega
          · rw [errV_no hl0]
            clear HNV
            by_cases h3 : i = 3
            · subst h3
              by_cases hsy : synE j4 = 0
              · rw [hsy, errV_zero] at SY
                go_wp2_with (fail)
                refine SY.out.mono ?_
                rintro e w5 ⟨S5, rfl, hd5⟩
                have HS5 := hide hd5
                clear hd5 SY HS4 hc4
                go_wp2
                go_roundw
                case rel => exact ⟨3 + 1, S5, j5, most, by omega, rfl, by go_num, HS5.out, HKS.out⟩
                case measure => simp [intOf]
              · rw [errV_no hsy] at SY
                go_wp2_with (fail)
                refine SY.out.mono ?_
                rintro e w5 ⟨S5, rfl, hd5⟩
                have HS5 := hide hd5
                clear hd5 SY HS4 hc4
                go_wp2
                go_meet
                exact ⟨S5, j5, most, 3 + 1, rfl, HS5, HKS⟩
            · have h3z : ((i : Int) == 3) = false := by simp; omega
              clear SY HKS
              go_wp2
              go_roundw
              case rel => exact ⟨i + 1, S4, j4, most, by omega, rfl, by go_num, HS4.out, HK4.out⟩
              case measure => simp [intOf]; omega
      · by_cases hin : i < n1
        · have hinz : (i : Int) < n1 := by omega
          have hi25z : ¬ (i : Int) < 25 := by omega
          clear hlt
          go_wp2
          go_meet
          exact ⟨S, j, most, i, rfl, HS, HK⟩
        · have hinz : ¬ (i : Int) < n1 := by omega
          clear hlt
          go_wp2
          go_meet
          exact ⟨S, j, most, i, rfl, HS, HK⟩
  case rest =>
  obtain ⟨S, j, most, i, rfl, HS, HK⟩ := hcut
  clear HS3 HK0
  obtain ⟨w4, hwa⟩ : ∃ wa, wa = wc := ⟨_, rfl⟩
  subst hwa
  have CR := hide (sep_cra HCL.out HS.out keep)
  have LA := hide (fun (W : World) (S : Nat → Prop) (h : M.Sep w w.heap.size [logI HLL.out w.heap.size p S (craT j keep)] W) => sep_lea HLE.out h nm HZ.out)
  cases hn : nameB nm with
  | false =>
    rw [(leaE_no (f := (craT j keep).f) hn).1, (leaE_no (f := (craT j keep).f) hn).2, errV_no (show ¬ (3 : Int) = 0 by decide)] at LA
    go_wp2_with (fail)
    refine CR.out.mono ?_
    rintro e w5 ⟨S5, rfl, hd5⟩
    have LA1 := hide (LA.out _ _ hd5)
    clear hd5 CR HS LA
    go_wp2_with (fail)
    refine LA1.out.mono ?_
    rintro e w6 ⟨rfl, hd6⟩
    have HS6 := hide hd6
    clear hd6 LA1
    go_wp2_with (fail)
    refine (As.same_err 3 3 _ (HG.out _ HS6.out.lo)).mono ?_
    rintro e w7 ⟨rfl, hb7⟩
    have HS7 := hide (HS6.out.below hb7)
    go_wp2
    go_ret
    exact ⟨rfl, HS7.out.lo⟩
  | true =>
    obtain ⟨k1, k2⟩ := kp_crash HK.out keep hn
    rw [(leaE_ok (f := (craT j keep).f) hn).1, (leaE_ok (f := (craT j keep).f) hn).2, errV_zero] at LA
    clear hn HK
    generalize (craT j keep).f nm = lv at *
    generalize craT j keep = c at *
    have k1' : ¬ lv < 0 := by omega
    have k2' : ¬ most < lv := by omega
    clear k1 k2
    go_wp2_with (fail)
    refine CR.out.mono ?_
    rintro e w5 ⟨S5, rfl, hd5⟩
    have LA1 := hide (LA.out _ _ hd5)
    clear hd5 CR HS LA
    go_wp2_with (fail)
    refine LA1.out.mono ?_
    rintro e w6 ⟨rfl, hd6⟩
    have HS6 := hide hd6
    clear hd6 LA1
    by_cases hq : quoE x k n 0 noBank = 0
    · have hx := (quoE_zero hq).2.2.1
      have PB := hide (fun W => Key.public_ok x W hx)
      have SU := hide (fun (W : World) => HJL.out (pwZ 64 x) (quoV x k n 0 noBank) n none [] 0 0 none [] 0 0 W rfl (by unfold maxLen; omega) (RRow.nil _ _) rfl (by unfold maxLen; omega) (by omega) ⟨RRow.nil _ _, fun c hc => by cases hc⟩)
      rw [none_sure hq, errV_zero] at SU
      rw [hq, errV_zero] at QM
      clear hq hx
      generalize quoV x k n 0 noBank = tq at *
      obtain ⟨u0, u1, u2, u3, u4⟩ := tq
      unfold quoC at QM
      simp only [] at QM SU
      go_wp2_with (fail)
      refine (QM.out _).mono ?_
      rintro e w7 ⟨rfl, hb7⟩
      have hx7 := (HS6.out.below hb7).hb
      have HS7 := hide ((HS6.out.below hb7).allocz hx7 (.cells #[.int .i64 u0, .int .i64 u1, .int .i64 u2, .int .i64 u3, .int .i64 u4] 50))
      have hi7 := blk_new w7 (.cells #[.int .i64 u0, .int .i64 u1, .int .i64 u2, .int .i64 u3, .int .i64 u4] 50)
      obtain ⟨q0, q1, q2, q3, q4⟩ := quin_cells hi7
      clear hi7 hb7 HS6 QM
      go_wp2_with (fail)
      refine (PB.out _).mono ?_
      rintro e w8 ⟨rfl, hw⟩
      rw [hw]
      clear hw PB
      go_wp2_with (fail)
      refine (SU.out _).mono ?_
      rintro e w9 ⟨rfl, hb9⟩
      have HS9 := hide (HS7.out.below hb9)
      go_wp2
      go_ret
      exact ⟨rfl, HS9.out.lo⟩
    · rw [errV_no hq] at QM
      generalize quoV x k n 0 noBank = tq at *
      obtain ⟨u0, u1, u2, u3, u4⟩ := tq
      unfold quoC at QM
      simp only [] at QM
      go_wp2_with (fail)
      refine (QM.out _).mono ?_
      rintro e w7 ⟨rfl, hb7⟩
      have HS7 := hide ((HS6.out.below hb7).below (below_new w7 (.cells #[.int .i64 u0, .int .i64 u1, .int .i64 u2, .int .i64 u3, .int .i64 u4] 50)))
      clear hb7 HS6 QM
      go_wp2
      go_ret
      exact ⟨rfl, HS7.out.lo⟩
end Go.Proofs.YtgnpffkfbacejaaGreatDoor.TopKept
