/-
  The walk of stairlaw1.ImageBack: it returns true for every three images and every text, and memory that was there stays as it was.
-/
import Derived.Test.YtdbpeikijonjmaaDoorBackMath
namespace Go.Proofs.YtdbpeikijonjmaaDoor.Back
open Go.ChangeShapes Go.WideShapes Go.ChangeAt Go.RowKit
open Go.Proofs.YtdbpeikijonjmaaDoor.M Go.Proofs.YtdbpeikijonjmaaDoor.Image
set_option linter.unusedVariables false

/-- What the walk carries: the three images lie where they were laid, strconv's variables hold what they held, and all that was there is as it was. -/
def Kept (w0 : World) (m k l : Array Value) (W : World) : Prop :=
  Below w0.heap.size w0 W ∧ Has W ∧ W.heap[w0.heap.size]? = some (.cells m 23) ∧ W.heap[w0.heap.size + 1]? = some (.cells k 23) ∧ W.heap[w0.heap.size + 1 + 1]? = some (.cells l 23)
theorem Kept.below {w0 W W' : World} {m k l : Array Value} (h : Kept w0 m k l W) (hb : Below W.heap.size W W') : Kept w0 m k l W' :=
  ⟨below_on h.1 hb, h.2.1.below hb, blk_below h.2.2.1 hb, blk_below h.2.2.2.1 hb, blk_below h.2.2.2.2 hb⟩
theorem Kept.start {w0 : World} {m k l : Array Value} (h : Has w0) : Kept w0 m k l (((w0.alloc (.cells m 23)).alloc (.cells k 23)).alloc (.cells l 23)) := by
  have hb := below_on (below_on (below_new w0 (.cells m 23)) (below_new _ (.cells k 23))) (below_new _ (.cells l 23))
  refine ⟨hb, h.below hb, blk_keep (blk_keep (blk_new _ _) _) _, blk_keep (blk_two _ _ _) _, ?_⟩
  have := blk_two (w0.alloc (.cells m 23)) (.cells k 23) (.cells l 23)
  simpa using this

set_option maxRecDepth 20000 in
set_option maxHeartbeats 8000000 in
theorem walk (nm cd nm' cd' nm'' cd'' s : ByteArray) (v v' v'' : Int) (w : World) (h1 : nm.size ≤ 140737488351232) (h2 : cd.size ≤ 140737488351232) (h3 : nm'.size ≤ 140737488351232) (h4 : cd'.size ≤ 140737488351232)
    (h5 : nm''.size ≤ 140737488351232) (h6 : cd''.size ≤ 140737488351232) (hs : s.size ≤ 140737488351232) (hh : Has w) :
    Calls Tryd.prog 4 #[.agg (imgC nm v cd), .agg (imgC nm' v' cd'), .agg (imgC nm'' v'' cd''), .string s] w fun e w' => e = .returned (.bool true) ∧ Below w.heap.size w w' := by
  have HI := hide (Kept.start (m := imgC nm v cd) (k := imgC nm' v' cd') (l := imgC nm'' v'' cd'') hh)
  obtain ⟨pf1, pf2⟩ := par_fact2
  have PF1 := hide pf1
  have PF2 := hide pf2
  clear hh pf1 pf2
  unfold imgC at HI ⊢
  go_enter Tryd.func4, Tryd.ntmps4
  go_wp2_with (fail)
  refine (parse_any _ _ (by decide) HI.out.2.1).mono ?_
  rintro e w1 ⟨rfl, hb1⟩
  rw [PF1.out, PF2.out, errV_zero]
  have HI1 := hide (HI.out.below (below_on hb1 (below_new w1 (.cells #[.string { data := #[111, 115] }, .int .i64 12, .string { data := #[97, 98, 99] }] 23))))
  unfold imgC
  clear hb1 HI
  go_wp2_with (fail)
  refine (parse_any s _ hs HI1.out.2.1).mono ?_
  rintro e w2 ⟨rfl, hb2⟩
  obtain ⟨a, c, n, hc, ha8, hc8, hpar⟩ := par_shape s
  have HP := hide hpar
  rw [hc]
  have HI2 := hide (HI1.out.below (below_on hb2 (below_new w2 (.cells #[.string a, .int .i64 n, .string c] 23))))
  have HX2 := hide (blk_new w2 (.cells #[.string a, .int .i64 n, .string c] 23))
  clear hb2 HI1 hc hpar
  unfold imgC
  go_upto_region 5 with (fail)
  go_cut [12, 46, 48, 50, 51, 52] (fun s12 _ _ _ _ s52 w' => s52 = .bool (decide (parE s = 0)) ∧ w' = w2.alloc (.cells #[.string a, .int .i64 n, .string c] 23))
  case first =>
    by_cases hE : parE s = 0
    · rw [hE, errV_zero]
      go_wp2
      go_meet
      exact ⟨by rw [decide_eq_true hE], rfl⟩
    · rw [errV_ne hE]
      go_wp2
      go_meet
      exact ⟨by rw [decide_eq_false hE], rfl⟩
  case rest =>
  obtain ⟨rfl, rfl⟩ := hcut
  go_upto_if 52 with (fail)
  go_cut [52] (fun _ w' => Kept w (imgC nm v cd) (imgC nm' v' cd') (imgC nm'' v'' cd'') w')
  case first =>
    by_cases hE : parE s = 0
    · obtain ⟨e1, e2⟩ := HP.out hE
      rw [decide_eq_true hE]
      have E1 := hide e1
      have E2 := hide e2
      clear hE e1 e2
      go_wp2_with (fail)
      refine (print_any a c n _ (by omega) (by omega) HI2.out.2.1).mono ?_
      rintro e w3 ⟨rfl, hb3⟩
      rw [lineV_ok E1.out, E2.out, E1.out, errV_zero]
      have HI3 := hide (HI2.out.below hb3)
      clear hb3
      go_wp2
      go_meet
      exact HI3.out
    · rw [decide_eq_false hE]
      clear hE
      go_wp2
      go_meet
      exact HI2.out
  case rest =>
  have HI4 := hide hcut
  clear hcut HI2 HX2
  obtain ⟨c0, c1, c2⟩ := img_cells HI4.out.2.2.1
  go_wp2_with (fail)
  refine (print_any nm cd v _ h1 h2 HI4.out.2.1).mono ?_
  rintro e w5 ⟨rfl, hb5⟩
  have HI5 := hide (HI4.out.below hb5)
  clear hb5 HI4 c0 c1 c2
  go_upto_region 10 with (fail)
  go_cut [12, 65, 67, 69, 70, 71] (fun s12 _ _ _ _ s71 w' => s71 = .bool (decide (imgE nm v cd = 0)) ∧ w' = w5)
  case first =>
    by_cases hE : imgE nm v cd = 0
    · rw [hE, errV_zero]
      go_wp2
      go_meet
      exact ⟨by rw [decide_eq_true hE], rfl⟩
    · rw [errV_ne hE]
      go_wp2
      go_meet
      exact ⟨by rw [decide_eq_false hE], rfl⟩
  case rest =>
  obtain ⟨rfl, rfl⟩ := hcut
  go_upto_if 71 with (fail)
  go_cut [15, 65, 67, 68, 71] (fun _ _ _ _ _ w' => Kept w (imgC nm v cd) (imgC nm' v' cd') (imgC nm'' v'' cd'') w')
  case first =>
    by_cases hE : imgE nm v cd = 0
    · obtain ⟨b1, b2⟩ := par_back hE
      obtain ⟨n1, n2⟩ := newE_self hE
      have hl := line_size nm cd v hE
      rw [decide_eq_true hE, lineV_ok hE]
      have B1 := hide b1
      have B2 := hide b2
      have N1 := hide n1
      have N2 := hide n2
      clear hE b1 b2 n1 n2
      go_wp2_with (fail)
      refine (parse_any _ _ (by omega) HI5.out.2.1).mono ?_
      rintro e w6 ⟨rfl, hb6⟩
      rw [B1.out, B2.out, errV_zero]
      unfold imgC
      have HI6 := hide (HI5.out.below (below_on hb6 (below_new w6 (.cells #[.string nm, .int .i64 v, .string cd] 23))))
      have HY6 := hide (blk_new w6 (.cells #[.string nm, .int .i64 v, .string cd] 23))
      clear hb6
      obtain ⟨c0, c1, c2⟩ := img_cells HI6.out.2.2.1
      go_wp2_with (fail)
      refine (newer_any nm cd nm cd v v _ h1 h2 h1 h2).mono ?_
      rintro e w7 ⟨rfl, hb7⟩
      rw [N1.out, N2.out, errV_zero]
      have HI7 := hide (HI6.out.below hb7)
      have HY7 := hide (blk_below HY6.out hb7)
      clear hb7 HI6 HY6 c0 c1 c2
      obtain ⟨c0, c1, c2⟩ := img_cells HI7.out.2.2.1
      obtain ⟨d0, d1, d2⟩ := img_cells (nm := nm) (v := v) (cd := cd) HY7.out
      go_wp2
      go_meet
      exact HI7.out
    · rw [decide_eq_false hE]
      clear hE
      go_wp2
      go_meet
      exact HI5.out
  case rest =>
  have HI8 := hide hcut
  clear hcut HI5
  obtain ⟨c0, c1, c2⟩ := img_cells HI8.out.2.2.1
  obtain ⟨d0, d1, d2⟩ := img_cells HI8.out.2.2.2.1
  go_wp2_with (fail)
  refine (newer_any nm cd nm' cd' v v' _ h1 h2 h3 h4).mono ?_
  rintro e w9 ⟨rfl, hb9⟩
  have HI9 := hide (HI8.out.below hb9)
  clear hb9 HI8 c0 c1 c2 d0 d1 d2
  by_cases hA : newE nm v cd nm' v' cd' = 0
  · have HA := hide hA
    rw [hA, errV_zero]
    clear hA
    obtain ⟨c0, c1, c2⟩ := img_cells HI9.out.2.2.1
    obtain ⟨d0, d1, d2⟩ := img_cells HI9.out.2.2.2.1
    go_wp2_with (fail)
    refine (newer_any nm' cd' nm cd v' v _ h3 h4 h1 h2).mono ?_
    rintro e w10 ⟨rfl, hb10⟩
    rw [newE_back HA.out, errV_zero]
    have HI10 := hide (HI9.out.below hb10)
    clear hb10 HI9 c0 c1 c2 d0 d1 d2
    have HN := hide (newV_back HA.out)
    cases hp : newV nm v cd nm' v' cd' with
    | false =>
      obtain ⟨d0, d1, d2⟩ := img_cells HI10.out.2.2.2.1
      obtain ⟨f0, f1, f2⟩ := img_cells HI10.out.2.2.2.2
      go_wp2_with (fail)
      refine (newer_any nm' cd' nm'' cd'' v' v'' _ h3 h4 h5 h6).mono ?_
      rintro e w11 ⟨rfl, hb11⟩
      have HI11 := hide (HI10.out.below hb11)
      clear hb11 HI10 d0 d1 d2 f0 f1 f2
      by_cases hB : newE nm' v' cd' nm'' v'' cd'' = 0
      · have HC := hide (newE_trans HA.out hB)
        have HV := hide (newV_trans HA.out hB)
        rw [hB, errV_zero]
        clear hB
        obtain ⟨c0, c1, c2⟩ := img_cells HI11.out.2.2.1
        obtain ⟨f0, f1, f2⟩ := img_cells HI11.out.2.2.2.2
        go_wp2_with (fail)
        refine (newer_any nm cd nm'' cd'' v v'' _ h1 h2 h5 h6).mono ?_
        rintro e w12 ⟨rfl, hb12⟩
        rw [HC.out, errV_zero]
        have HB12 := hide (below_on HI11.out.1 hb12)
        clear hb12 HI11
        go_wp2
        go_ret
        exact ⟨rfl, HB12.out⟩
      · rw [errV_ne hB]
        clear hB
        go_wp2
        go_ret
        exact ⟨rfl, HI11.out.1⟩
    | true =>
      have HP0 := hide hp
      have hq0 : newV nm' v' cd' nm v cd = false := by
        have := HN.out
        rw [hp] at this
        simpa using this
      rw [hq0]
      clear hp hq0
      obtain ⟨d0, d1, d2⟩ := img_cells HI10.out.2.2.2.1
      obtain ⟨f0, f1, f2⟩ := img_cells HI10.out.2.2.2.2
      go_wp2_with (fail)
      refine (newer_any nm' cd' nm'' cd'' v' v'' _ h3 h4 h5 h6).mono ?_
      rintro e w11 ⟨rfl, hb11⟩
      have HI11 := hide (HI10.out.below hb11)
      clear hb11 HI10 d0 d1 d2 f0 f1 f2
      by_cases hB : newE nm' v' cd' nm'' v'' cd'' = 0
      · have HC := hide (newE_trans HA.out hB)
        have HV := hide (newV_trans HA.out hB)
        rw [hB, errV_zero]
        clear hB
        obtain ⟨c0, c1, c2⟩ := img_cells HI11.out.2.2.1
        obtain ⟨f0, f1, f2⟩ := img_cells HI11.out.2.2.2.2
        cases hq : newV nm' v' cd' nm'' v'' cd'' with
        | false =>
          go_wp2_with (fail)
          refine (newer_any nm cd nm'' cd'' v v'' _ h1 h2 h5 h6).mono ?_
          rintro e w12 ⟨rfl, hb12⟩
          rw [HC.out, errV_zero]
          have HB12 := hide (below_on HI11.out.1 hb12)
          clear hb12 HI11
          go_wp2
          go_ret
          exact ⟨rfl, HB12.out⟩
        | true =>
          have HD := hide (HV.out HP0.out hq)
          go_wp2_with (fail)
          refine (newer_any nm cd nm'' cd'' v v'' _ h1 h2 h5 h6).mono ?_
          rintro e w12 ⟨rfl, hb12⟩
          rw [HC.out, errV_zero]
          have HB12 := hide (below_on HI11.out.1 hb12)
          clear hb12 HI11
          rw [HD.out]
          go_wp2
          go_ret
          exact ⟨rfl, HB12.out⟩
      · rw [errV_ne hB]
        clear hB
        go_wp2
        go_ret
        exact ⟨rfl, HI11.out.1⟩
  · rw [errV_ne hA]
    clear hA
    go_wp2
    go_ret
    exact ⟨rfl, HI9.out.1⟩
end Go.Proofs.YtdbpeikijonjmaaDoor.Back
