/-
  The walk of stairlaw3.LogStops: it returns true, and memory that was there stays as it was.
-/
import Derived.Test.YtgnpffkfbacejaaDoorLogOb
import Derived.Test.YtgnpffkfbacejaaDoorLogStopsMath
import Derived.Test.YtgnpffkfbacejaaDoorAs
import Derived.Deep.DeepCutAuto
import Derived.Deep.CutBlock
namespace Go.Proofs.YtgnpffkfbacejaaDoor.LogStops
open Go.ChangeShapes Go.WideShapes Go.ChangeAt Go.RowKit
open Go.Proofs.YtgnpffkfbacejaaDoor.M Go.Proofs.YtgnpffkfbacejaaDoor.Log
set_option linter.unusedVariables false

theorem errV_no {T : TypeId} {k : Int} (h : ¬ k = 0) : errV T k = .iface T (.int .i64 k) := if_neg h
theorem os_sz : ({ data := #[111, 115] } : ByteArray).size ≤ 140737488351232 := by show (2 : Nat) ≤ 140737488351232; omega
theorem no_sz : ({ data := #[] } : ByteArray).size ≤ 140737488351232 := by show (0 : Nat) ≤ 140737488351232; omega

set_option maxRecDepth 20000 in
set_option maxHeartbeats 8000000 in
theorem walk {Lg : World → Nat → Value → (Nat → Prop) → LS → Prop} (LL : Core Lg) (RL : RaiseLaw Lg) (SL : SyncLaw Lg) (FL : FailLaw Lg) (CL : CrashLaw Lg) (LE : LeastLaw Lg) (BL : BytesLaw Lg) (SF : SafeLaw Lg)
    (after many keep : Int) (w : World) (hh : Image.Has w) (hg : As.Handle w) :
    Calls Tryd.prog 3 #[.int .i64 after, .int .i64 many, .int .i64 keep] w fun e w' => e = .returned (.bool true) ∧ Below w.heap.size w w' := by
  have HLL := hide LL
  have HRL := hide RL
  have HSL := hide SL
  have HCL := hide CL
  have HLE := hide LE
  have HBL := hide BL
  have HSF := hide SF
  have HFL := hide FL
  have HG := hide (fun (W : World) (h : Below w.heap.size w W) => hg.below h)
  have HH := hide (fun (W : World) (h : Below w.heap.size w W) => hh.below h)
  have HS0 : Hid (M.Sep w w.heap.size [] w) := Sep.nil (Below.refl _ _) (Nat.le_refl _)
  have NW := hide (sep_new HLL.out HS0.out)
  clear LL RL SL FL CL LE BL SF hg hh
  by_cases h1 : after < 0
  · go_enter Tryd.func3, Tryd.ntmps3
    go_wp2
    go_ret
    exact ⟨rfl, HS0.out.lo⟩
  by_cases h2 : 20 < after
  · go_enter Tryd.func3, Tryd.ntmps3
    go_wp2
    go_ret
    exact ⟨rfl, HS0.out.lo⟩
  by_cases h3 : many < 0
  · go_enter Tryd.func3, Tryd.ntmps3
    go_wp2
    go_ret
    exact ⟨rfl, HS0.out.lo⟩
  by_cases h4 : 20 < many
  · go_enter Tryd.func3, Tryd.ntmps3
    go_wp2
    go_ret
    exact ⟨rfl, HS0.out.lo⟩
  obtain ⟨af, rfl⟩ : ∃ af : Nat, after = af := ⟨after.toNat, by omega⟩
  obtain ⟨my, rfl⟩ : ∃ my : Nat, many = my := ⟨many.toNat, by omega⟩
  have haf : af ≤ 20 := by omega
  have hmy : my ≤ 20 := by omega
  go_enter Tryd.func3, Tryd.ntmps3
  go_wp2_with (fail)
  refine NW.out.mono ?_
  rintro e w1 ⟨p, S1, rfl, hd1⟩
  have FA := hide (sep_fai HFL.out hd1 af (by omega))
  clear hd1 NW HS0 h1 h2 h3 h4
  have HO0 := hide (osL_new haf)
  generalize faiT newL af = j0 at *
  go_wp2_with (fail)
  refine FA.out.mono ?_
  rintro e w2 ⟨S2, rfl, hd2⟩
  have HS2 := hide hd2
  clear hd2 FA
  go_wp2
  go_loopw [8, 9, 10, 11, 12, 13, 14, 15, 16] (fun s8 s9 _ _ _ _ _ _ _ wr => ∃ (i : Nat) (S : Nat → Prop) (j : LS), i ≤ my ∧ s8 = .int .i64 i ∧ s9 = .int .i64 i ∧ Hid (M.Sep w w.heap.size [logI HLL.out w.heap.size p S j] wr) ∧ Hid (OsL af i j)) (fun _ s9 _ _ _ _ _ _ _ _ => 20 - (intOf s9).toNat)
  case atStart => exact ⟨0, S2, j0, by omega, rfl, rfl, HS2.out, HO0.out⟩
  case round =>
    obtain ⟨i, S, j, him, rfl, rfl, HS, HO⟩ := hrel
    clear HS2 HO0
    by_cases hlt : i < my
    · as_aux_lemma =>
      have hltz : (i : Int) < my := by omega
      have RB := hide (sep_rai HRL.out HS.out { data := #[] } 1 no_sz (HH.out _ HS.out.lo))
      have HB1 : Hid (lraE j { data := #[] } 1 = (if j.stop = true then 6 else 3) ∧ lraB j { data := #[] } 1 = false ∧ ∀ n, lraT j { data := #[] } 1 n = j) := ⟨(os_bad (j := j) (n := 0) 1).1, (os_bad (j := j) (n := 0) 1).2.1, fun n => (os_bad (j := j) (n := n) 1).2.2⟩
      have HR1 : Hid (lraE j { data := #[111, 115] } ((i : Int) + 1) = (if i < af then 0 else 6) ∧ ∀ n, OsL af (i + 1) (lraT j { data := #[111, 115] } ((i : Int) + 1) n)) := ⟨(os_raise (n := 0) HO.out (by omega)).1, fun n => (os_raise (n := n) HO.out (by omega)).2⟩
      have RO := hide (fun (W : World) (S : Nat → Prop) (h : M.Sep w w.heap.size [logI HLL.out w.heap.size p S j] W) => sep_rai HRL.out h { data := #[111, 115] } ((i : Int) + 1) os_sz (HH.out _ h.lo))
      rw [HB1.out.1, HB1.out.2.1] at RB
      rw [HR1.out.1] at RO
      generalize lraB j { data := #[111, 115] } ((i : Int) + 1) = ob at *
      have hst : (j.stop = true ↔ af < i) := by
        constructor
        · intro h
          apply Decidable.byContradiction
          intro hc
          rw [(HO.out.1.go (by omega)).1] at h
          cases h
        · exact HO.out.1.no
      have hiz : (i : Int) + 1 ≤ 9223372036854775807 := by omega
      rcases Nat.lt_trichotomy i af with hc | hc | hc
      · rw [if_neg (by rw [hst]; omega), errV_no (show ¬ (3 : Int) = 0 by decide)] at RB
        rw [if_pos hc, errV_zero] at RO
        have c1 : ¬ (af : Int) < i := by omega
        have c2 : (i : Int) ≤ af := by omega
        have c3 : ¬ (i : Int) = af := by omega
        have c4 : (i : Int) < af := by omega
        clear hst hc HO
        go_wp2_with (fail)
        refine RB.out.mono ?_
        rintro e w3 ⟨S3, n3, _, _, rfl, hd3⟩
        rw [HB1.out.2.2] at hd3
        have RO1 := hide (RO.out _ _ hd3)
        clear hd3 RB RO HB1 HS
        go_wp2_with (fail)
        refine RO1.out.mono ?_
        rintro e w4 ⟨S4, n4, _, _, rfl, hd4⟩
        have HS4 := hide hd4
        have HO4 := hide (HR1.out.2 n4)
        clear hd4 RO1 HR1
        generalize lraT j { data := #[111, 115] } ((i : Int) + 1) n4 = j4 at *
        go_wp2_with (fail)
        refine (As.same_err 3 6 _ (HG.out _ HS4.out.lo)).mono ?_
        rintro e w5 ⟨rfl, hb5⟩
        have HS5 := hide (HS4.out.below hb5)
        clear hb5 HS4
        go_wp2_with (fail)
        refine (As.same_err 3 3 _ (HG.out _ HS5.out.lo)).mono ?_
        rintro e w6 ⟨rfl, hb6⟩
        have HS6 := hide (HS5.out.below hb6)
        clear hb6 HS5
        go_wp2_with (fail)
        refine (As.same_nil 6 _).mono ?_
        rintro e w7 ⟨rfl, hw⟩
        rw [hw]
        clear hw hltz hiz
        go_upto_region 14 with (fail)
        go_cut [106] from 46 to 108 (fun s106 w' => s106 = .bool false ∧ w' = w6)
        case first =>
          generalize hI : (i : Int) = I at c1 c2 c3 c4 ⊢
          generalize hA : (af : Int) = A at c1 c2 c3 c4 ⊢
          have HI := hide hI
          have HA := hide hA
          clear hI hA
          go_wp2
          have hI := HI.out
          have hA := HA.out
          clear HI HA
          subst hI
          subst hA
          go_meet
          exact ⟨rfl, rfl⟩
        case rest =>
        obtain ⟨rfl, hw⟩ := hcut
        rw [hw]
        clear hw c1 c2 c3 c4
        go_wp2
        go_roundw
        case rel => exact ⟨i + 1, S4, j4, by omega, by go_num, by go_num, HS6.out, HO4.out⟩
        case measure => simp [intOf]; omega
      · subst hc
        rw [if_neg (by rw [hst]; omega), errV_no (show ¬ (3 : Int) = 0 by decide)] at RB
        rw [if_neg (by omega), errV_no (show ¬ (6 : Int) = 0 by decide)] at RO
        clear hst HO
        go_wp2_with (fail)
        refine RB.out.mono ?_
        rintro e w3 ⟨S3, n3, _, _, rfl, hd3⟩
        rw [HB1.out.2.2] at hd3
        have RO1 := hide (RO.out _ _ hd3)
        clear hd3 RB RO HB1 HS
        go_wp2_with (fail)
        refine RO1.out.mono ?_
        rintro e w4 ⟨S4, n4, _, _, rfl, hd4⟩
        have HS4 := hide hd4
        have HO4 := hide (HR1.out.2 n4)
        clear hd4 RO1 HR1
        generalize lraT j { data := #[111, 115] } ((i : Int) + 1) n4 = j4 at *
        go_wp2_with (fail)
        refine (As.same_err 3 6 _ (HG.out _ HS4.out.lo)).mono ?_
        rintro e w5 ⟨rfl, hb5⟩
        have HS5 := hide (HS4.out.below hb5)
        clear hb5 HS4
        go_wp2_with (fail)
        refine (As.same_err 3 3 _ (HG.out _ HS5.out.lo)).mono ?_
        rintro e w6 ⟨rfl, hb6⟩
        have HS6 := hide (HS5.out.below hb6)
        clear hb6 HS5
        go_wp2_with (fail)
        refine (As.same_err 6 6 _ (HG.out _ HS6.out.lo)).mono ?_
        rintro e w7 ⟨rfl, hb7⟩
        have HS7 := hide (HS6.out.below hb7)
        clear hb7 HS6
        go_wp2
        go_roundw
        case rel => exact ⟨i + 1, S4, j4, by omega, by go_num, by go_num, HS7.out, HO4.out⟩
        case measure => simp [intOf]; omega
      · rw [if_pos (hst.2 hc), errV_no (show ¬ (6 : Int) = 0 by decide)] at RB
        rw [if_neg (by omega), errV_no (show ¬ (6 : Int) = 0 by decide)] at RO
        have c1 : (af : Int) < i := by omega
        have c2 : ¬ (i : Int) ≤ af := by omega
        have c3 : ¬ (i : Int) = af := by omega
        have c4 : ¬ (i : Int) < af := by omega
        clear hst hc HO
        go_wp2_with (fail)
        refine RB.out.mono ?_
        rintro e w3 ⟨S3, n3, _, _, rfl, hd3⟩
        rw [HB1.out.2.2] at hd3
        have RO1 := hide (RO.out _ _ hd3)
        clear hd3 RB RO HB1 HS
        go_wp2_with (fail)
        refine RO1.out.mono ?_
        rintro e w4 ⟨S4, n4, _, _, rfl, hd4⟩
        have HS4 := hide hd4
        have HO4 := hide (HR1.out.2 n4)
        clear hd4 RO1 HR1
        generalize lraT j { data := #[111, 115] } ((i : Int) + 1) n4 = j4 at *
        go_wp2_with (fail)
        refine (As.same_err 6 6 _ (HG.out _ HS4.out.lo)).mono ?_
        rintro e w5 ⟨rfl, hb5⟩
        have HS5 := hide (HS4.out.below hb5)
        clear hb5 HS4
        go_wp2_with (fail)
        refine (As.same_err 6 3 _ (HG.out _ HS5.out.lo)).mono ?_
        rintro e w6 ⟨rfl, hb6⟩
        have HS6 := hide (HS5.out.below hb6)
        clear hb6 HS5
        go_wp2_with (fail)
        refine (As.same_err 6 6 _ (HG.out _ HS6.out.lo)).mono ?_
        rintro e w7 ⟨rfl, hb7⟩
        have HS7 := hide (HS6.out.below hb7)
        clear hb7 HS6 hltz hiz
        go_upto_region 14 with (fail)
        go_cut [106] from 46 to 108 (fun s106 w' => s106 = .bool false ∧ w' = w7)
        case first =>
          generalize hI : (i : Int) = I at c1 c2 c3 c4 ⊢
          generalize hA : (af : Int) = A at c1 c2 c3 c4 ⊢
          have HI := hide hI
          have HA := hide hA
          clear hI hA
          go_wp2
          have hI := HI.out
          have hA := HA.out
          clear HI HA
          subst hI
          subst hA
          go_meet
          exact ⟨rfl, rfl⟩
        case rest =>
        obtain ⟨rfl, hw⟩ := hcut
        rw [hw]
        clear hw c1 c2 c3 c4
        go_wp2
        go_roundw
        case rel => exact ⟨i + 1, S4, j4, by omega, by go_num, by go_num, HS7.out, HO4.out⟩
        case measure => simp [intOf]; omega
    · have hltz : ¬ (i : Int) < my := by omega
      have HO1 := hide HO.out.1
      have him2 : i ≤ 20 := by omega
      clear HO hlt him
      go_wp2
      go_loopw [8, 17] (fun s8 _ wr => ∃ (s : Nat) (S : Nat → Prop) (j : LS), s ≤ 21 ∧ s8 = .int .i64 s ∧ Hid (M.Sep w w.heap.size [logI HLL.out w.heap.size p S j] wr) ∧ Hid (OsS af s j)) (fun s8 _ _ => 21 - (intOf s8).toNat)
      case atStart => exact ⟨i, S, j, by omega, rfl, HS.out, HO1.out⟩
      case round =>
        obtain ⟨s, S, j, hs21, rfl, HS, HO⟩ := hrel
        clear HO1 him2
        by_cases hle : s ≤ af
        · have hlez : (s : Int) ≤ af := by omega
          have SY := hide (sep_syn HSL.out HS.out)
          have hsy := os_sync HO.out hle
          rw [hsy.1] at SY
          have HO2 := hide hsy.2
          clear hsy HO
          generalize synT j = j2 at *
          by_cases he : s = af
          · subst he
            rw [if_pos rfl, errV_no (show ¬ (6 : Int) = 0 by decide)] at SY
            go_wp2_with (fail)
            refine SY.out.mono ?_
            rintro e w3 ⟨S3, rfl, hd3⟩
            have HS3 := hide hd3
            clear hd3 SY HS
            go_wp2
            go_roundw
            case rel => exact ⟨s + 1, S3, j2, by omega, by go_num, HS3.out, HO2.out⟩
            case measure => simp [intOf]; omega
          · rw [if_neg he, errV_zero] at SY
            have heb : ((s : Int) == af) = false := by simp; omega
            go_wp2_with (fail)
            refine SY.out.mono ?_
            rintro e w3 ⟨S3, rfl, hd3⟩
            have HS3 := hide hd3
            clear hd3 SY HS
            go_wp2
            go_roundw
            case rel => exact ⟨s + 1, S3, j2, by omega, by go_num, HS3.out, HO2.out⟩
            case measure => simp [intOf]; omega
        · have hlez : ¬ (s : Int) ≤ af := by omega
          obtain ⟨t1, t2, t3, t4⟩ := os_stop HO.out (by omega)
          have t3' : lraE j { data := #[111, 115] } 3 = 6 := t3
          have t4' : ∀ n, lraT j { data := #[111, 115] } 3 n = j := t4
          have SY := hide (sep_syn HSL.out HS.out)
          rw [t1, t2, errV_no (show ¬ (6 : Int) = 0 by decide)] at SY
          have RO := hide (fun (W : World) (S : Nat → Prop) (h : M.Sep w w.heap.size [logI HLL.out w.heap.size p S j] W) => sep_rai HRL.out h { data := #[111, 115] } 3 os_sz (HH.out _ h.lo))
          rw [t3', errV_no (show ¬ (6 : Int) = 0 by decide)] at RO
          have HT4 := hide t4'
          have CR := hide (fun (W : World) (S : Nat → Prop) (h : M.Sep w w.heap.size [logI HLL.out w.heap.size p S j] W) => sep_cra HCL.out h keep)
          have HC : Hid (lraE (craT j keep) { data := #[111, 115] } 900 = 0 ∧ lraB (craT j keep) { data := #[111, 115] } 900 = true ∧ ∀ m, synE (lraT (craT j keep) { data := #[111, 115] } 900 m) = 0 ∧ (synT (lraT (craT j keep) { data := #[111, 115] } 900 m)).f { data := #[111, 115] } = 900 ∧ (synT (lraT (craT j keep) { data := #[111, 115] } 900 m)).safe = (synT (lraT (craT j keep) { data := #[111, 115] } 900 m)).bytes) :=
            ⟨(os_crash HO.out keep 0).1, (os_crash HO.out keep 0).2.1, fun m => (os_crash HO.out keep m).2.2⟩
          clear t1 t2 t3 t4 t3' t4' HO
          generalize lraB j { data := #[111, 115] } 3 = b3 at *
          generalize craT j keep = c at *
          go_wp2_with (fail)
          refine SY.out.mono ?_
          rintro e w3 ⟨S3, rfl, hd3⟩
          have RO1 := hide (RO.out _ _ hd3)
          clear hd3 SY HS RO
          go_wp2_with (fail)
          refine RO1.out.mono ?_
          rintro e w4 ⟨S4, n4, _, _, rfl, hd4⟩
          rw [HT4.out] at hd4
          have HS4 := hide hd4
          clear hd4 RO1 HT4
          go_wp2_with (fail)
          refine (As.same_err 6 6 _ (HG.out _ HS4.out.lo)).mono ?_
          rintro e w5 ⟨rfl, hb5⟩
          have HS5 := hide (HS4.out.below hb5)
          clear hb5 HS4
          go_wp2_with (fail)
          refine (As.same_err 6 6 _ (HG.out _ HS5.out.lo)).mono ?_
          rintro e w6 ⟨rfl, hb6⟩
          have CR1 := hide (CR.out _ _ (HS5.out.below hb6))
          clear hb6 HS5 CR
          go_wp2_with (fail)
          refine CR1.out.mono ?_
          rintro e w7 ⟨S7, rfl, hd7⟩
          have RA := hide (sep_rai HRL.out hd7 { data := #[111, 115] } 900 os_sz (HH.out _ hd7.lo))
          rw [HC.out.1, HC.out.2.1, errV_zero] at RA
          clear hd7 CR1
          go_wp2_with (fail)
          refine RA.out.mono ?_
          rintro e w8 ⟨S8, n8, _, _, rfl, hd8⟩
          obtain ⟨g1, g2, g3⟩ := HC.out.2.2 n8
          have SY2 := hide (sep_syn HSL.out hd8)
          rw [g1, errV_zero] at SY2
          clear hd8 RA HC g1
          generalize synT (lraT c { data := #[111, 115] } 900 n8) = j9 at *
          go_wp2_with (fail)
          refine SY2.out.mono ?_
          rintro e w9 ⟨S9, rfl, hd9⟩
          have LA := hide (sep_lea HLE.out hd9 { data := #[111, 115] } os_sz)
          rw [(leaE_ok (f := j9.f) (nm := { data := #[111, 115] }) os_name).1, (leaE_ok (f := j9.f) (nm := { data := #[111, 115] }) os_name).2, g2, errV_zero] at LA
          clear hd9 SY2 g2
          go_wp2_with (fail)
          refine LA.out.mono ?_
          rintro e w10 ⟨rfl, hd10⟩
          have SA := hide (sep_saf HSF.out hd10)
          rw [g3] at SA
          have BY := hide (fun (W : World) (h : M.Sep w w.heap.size [logI HLL.out w.heap.size p S9 j9] W) => sep_byt HBL.out h)
          clear hd10 LA g3
          generalize j9.bytes = nb at *
          go_wp2_with (fail)
          refine SA.out.mono ?_
          rintro e w11 ⟨rfl, hd11⟩
          have BY1 := hide (BY.out _ hd11)
          clear hd11 SA BY
          go_wp2_with (fail)
          refine BY1.out.mono ?_
          rintro e w12 ⟨rfl, hd12⟩
          have HS12 := hide hd12
          clear hd12 BY1
          go_wp2
          go_ret
          exact ⟨rfl, HS12.out.lo⟩
end Go.Proofs.YtgnpffkfbacejaaDoor.LogStops
