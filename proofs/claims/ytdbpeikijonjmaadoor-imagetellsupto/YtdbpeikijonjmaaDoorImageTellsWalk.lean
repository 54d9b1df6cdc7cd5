/-
  The walk of stairlaw1.ImageTells: it returns true for every two images and every text that fits in memory when cut, and memory that was there stays as it was.
-/
import Derived.Test.YtdbpeikijonjmaaDoorBackMath
import Derived.Test.YtdbpeikijonjmaaDoorRef5
import Derived.Test.YtdbpeikijonjmaaDoorAs
namespace Go.Proofs.YtdbpeikijonjmaaDoor.M
/-- What is wrong with the first of two, or else with the second. -/
def oneE (nm : ByteArray) (v : Int) (cd : ByteArray) (nm' : ByteArray) (v' : Int) (cd' : ByteArray) : Int := if imgE nm v cd = 0 then imgE nm' v' cd' else imgE nm v cd
section
variable {nm cd nm' cd' : ByteArray} {v v' : Int}
theorem oneE_ok (h : imgE nm v cd = 0) : oneE nm v cd nm' v' cd' = imgE nm' v' cd' := by unfold oneE; rw [if_pos h]
theorem oneE_bad (h : ¬ imgE nm v cd = 0) : oneE nm v cd nm' v' cd' = imgE nm v cd := by unfold oneE; rw [if_neg h]
theorem newE_one (h : oneE nm v cd nm' v' cd' = 0 ∧ ¬ nm = nm') : newE nm v cd nm' v' cd' = 3 := by
  obtain ⟨h1, h2⟩ := h
  by_cases hE : imgE nm v cd = 0
  · rw [oneE_ok hE] at h1
    exact newE_name hE h1 h2
  · rw [oneE_bad hE] at h1
    exact absurd h1 hE
theorem newE_two (h : ¬ (oneE nm v cd nm' v' cd' = 0 ∧ ¬ nm = nm')) : newE nm v cd nm' v' cd' = oneE nm v cd nm' v' cd' := by
  by_cases hE : imgE nm v cd = 0
  · rw [oneE_ok hE] at h ⊢
    by_cases hF : imgE nm' v' cd' = 0
    · by_cases hq : nm = nm'
      · rw [newE_ok hE hF hq, hF]
      · exact absurd ⟨hF, hq⟩ h
    · exact newE_second hE hF
  · rw [oneE_bad hE]
    exact newE_first hE
end
end Go.Proofs.YtdbpeikijonjmaaDoor.M
namespace Go.Proofs.YtdbpeikijonjmaaDoor.ImgTells
open Go.ChangeShapes Go.WideShapes Go.ChangeAt Go.RowKit
open Go.Proofs.YtdbpeikijonjmaaDoor.M Go.Proofs.YtdbpeikijonjmaaDoor.Image
set_option linter.unusedVariables false

/-- What the walk carries: the two images lie where they were laid, the library's variables hold what they held, and all that was there is as it was. -/
def Kept (w0 : World) (m k : Array Value) (W : World) : Prop :=
  Below w0.heap.size w0 W ∧ Has W ∧ As.Handle W ∧ W.heap[w0.heap.size]? = some (.cells m 23) ∧ W.heap[w0.heap.size + 1]? = some (.cells k 23)
theorem Kept.below {w0 W W' : World} {m k : Array Value} (h : Kept w0 m k W) (hb : Below W.heap.size W W') : Kept w0 m k W' :=
  ⟨below_on h.1 hb, h.2.1.below hb, h.2.2.1.below hb, blk_below h.2.2.2.1 hb, blk_below h.2.2.2.2 hb⟩
theorem Kept.start {w0 : World} {m k : Array Value} (h : Has w0) (hg : As.Handle w0) : Kept w0 m k ((w0.alloc (.cells m 23)).alloc (.cells k 23)) := by
  have hb := below_on (below_new w0 (.cells m 23)) (below_new _ (.cells k 23))
  exact ⟨hb, h.below hb, hg.below hb, blk_keep (blk_new _ _) _, blk_two _ _ _⟩

set_option maxRecDepth 20000 in
set_option maxHeartbeats 8000000 in
theorem walk (nm cd nm' cd' s : ByteArray) (v v' : Int) (w : World) (h1 : nm.size ≤ 140737488351232) (h2 : cd.size ≤ 140737488351232) (h3 : nm'.size ≤ 140737488351232) (h4 : cd'.size ≤ 140737488351232)
    (hs : s.size ≤ 1048576) (hh : Has w) (hg : As.Handle w) :
    Calls Tryd.prog 3 #[.agg (imgC nm v cd), .agg (imgC nm' v' cd'), .string s] w fun e w' => e = .returned (.bool true) ∧ Below w.heap.size w w' := by
  have HI := hide (Kept.start (m := imgC nm v cd) (k := imgC nm' v' cd') hh hg)
  clear hh hg
  unfold imgC at HI ⊢
  go_enter Tryd.func3, Tryd.ntmps3
  go_wp2_with (fail)
  refine (Ref.image_any nm cd v _ h1 h2).mono ?_
  rintro e w1 ⟨rfl, hb1⟩
  have HI1 := hide (HI.out.below hb1)
  clear hb1 HI
  obtain ⟨c0, c1, c2⟩ := img_cells (nm := nm) (v := v) (cd := cd) HI1.out.2.2.2.1
  go_wp2_with (fail)
  refine (check_any nm cd v _ h1 h2).mono ?_
  rintro e w2 ⟨rfl, hb2⟩
  have HI2 := hide (HI1.out.below hb2)
  clear hb2 HI1 c0 c1 c2
  go_wp2_with (fail)
  refine (As.same_is _ _ _ rfl HI2.out.2.2.1).mono ?_
  rintro e w3 ⟨rfl, hb3⟩
  have HI3 := hide (HI2.out.below hb3)
  clear hb3 HI2
  go_upto_region 5 with (fail)
  go_cut [28] (fun s28 w' => s28 = .bool (decide (imgE nm v cd = 0)) ∧ w' = w3)
  case first =>
    go_wp2
    go_meet
    exact ⟨by first | rfl | simp, rfl⟩
  case rest =>
  obtain ⟨rfl, rfl⟩ := hcut
  go_upto_if 28 with (fail)
  go_cut [9, 10, 28] (fun s9 s10 _ w' => s9 = .int .i64 (meaV nm v cd) ∧ s10 = .string (lineV nm v cd) ∧ Kept w (imgC nm v cd) (imgC nm' v' cd') w')
  case first =>
    by_cases hE : imgE nm v cd = 0
    · rw [decide_eq_true hE]
      have HE := hide hE
      have hl := line_size nm cd v hE
      clear hE
      obtain ⟨c0, c1, c2⟩ := img_cells (nm := nm) (v := v) (cd := cd) HI3.out.2.2.2.1
      go_wp2_with (fail)
      refine (Ref.line_ok nm cd v _ HE.out).mono ?_
      rintro e w4 ⟨rfl, hb4⟩
      have HI4 := hide (HI3.out.below hb4)
      clear hb4
      go_wp2_with (fail)
      refine (Ref.text_ok _ _ (by omega)).mono ?_
      rintro e w5 ⟨rfl, rfl⟩
      go_wp2
      go_meet
      exact ⟨by rw [meaV_ok HE.out], by rw [lineV_ok HE.out], HI4.out⟩
    · rw [decide_eq_false hE]
      have HE := hide hE
      clear hE
      go_wp2
      go_meet
      exact ⟨by rw [meaV_bad HE.out], by rw [lineV_bad HE.out], HI3.out⟩
  case rest =>
  obtain ⟨rfl, rfl, hk⟩ := hcut
  have HI6 := hide hk
  clear hk HI3
  obtain ⟨c0, c1, c2⟩ := img_cells HI6.out.2.2.2.1
  go_wp2_with (fail)
  refine (measure_any nm cd v _ h1 h2 HI6.out.2.1).mono ?_
  rintro e w7 ⟨rfl, hb7⟩
  have HI7 := hide (HI6.out.below hb7)
  clear hb7 HI6 c0 c1 c2
  go_wp2_with (fail)
  refine (As.same_is _ _ _ rfl HI7.out.2.2.1).mono ?_
  rintro e w8 ⟨rfl, hb8⟩
  have HI8 := hide (HI7.out.below hb8)
  clear hb8 HI7
  obtain ⟨c0, c1, c2⟩ := img_cells HI8.out.2.2.2.1
  go_wp2_with (fail)
  refine (print_any nm cd v _ h1 h2 HI8.out.2.1).mono ?_
  rintro e w9 ⟨rfl, hb9⟩
  have HI9 := hide (HI8.out.below hb9)
  clear hb9 HI8 c0 c1 c2
  go_wp2_with (fail)
  refine (As.same_is _ _ _ rfl HI9.out.2.2.1).mono ?_
  rintro e w10 ⟨rfl, hb10⟩
  have HI10 := hide (HI9.out.below hb10)
  clear hb10 HI9
  go_upto_region 12 with (fail)
  go_cut [60] (fun s60 w' => s60 = .bool (decide (imgE nm v cd = 0)) ∧ w' = w10)
  case first =>
    go_wp2
    go_meet
    exact ⟨by first | rfl | simp, rfl⟩
  case rest =>
  obtain ⟨rfl, rfl⟩ := hcut
  go_upto_if 60 with (fail)
  go_cut [7, 60] (fun s7 _ w' => s7 = .int .i64 (oneE nm v cd nm' v' cd') ∧ Kept w (imgC nm v cd) (imgC nm' v' cd') w')
  case first =>
    by_cases hE : imgE nm v cd = 0
    · rw [decide_eq_true hE]
      have HE := hide hE
      clear hE
      obtain ⟨c0, c1, c2⟩ := img_cells HI10.out.2.2.2.2
      go_wp2_with (fail)
      refine (Ref.image_any nm' cd' v' _ h3 h4).mono ?_
      rintro e w11 ⟨rfl, hb11⟩
      have HI11 := hide (HI10.out.below hb11)
      clear hb11
      go_wp2
      go_meet
      exact ⟨by rw [oneE_ok HE.out], HI11.out⟩
    · rw [decide_eq_false hE]
      have HE := hide hE
      clear hE
      go_wp2
      go_meet
      exact ⟨by rw [oneE_bad HE.out], HI10.out⟩
  case rest =>
  obtain ⟨rfl, hk⟩ := hcut
  have HI12 := hide hk
  clear hk HI10
  obtain ⟨w12, hw12⟩ : ∃ wa, wa = wc := ⟨_, rfl⟩
  subst hw12
  go_upto_region 14 with (fail)
  go_cut [7, 71] (fun s7 s71 w' => s7 = .int .i64 (oneE nm v cd nm' v' cd') ∧ s71 = .bool (decide (oneE nm v cd nm' v' cd' = 0 ∧ ¬ nm = nm')) ∧ w' = w12)
  case first =>
    obtain ⟨c0, c1, c2⟩ := img_cells HI12.out.2.2.2.1
    obtain ⟨d0, d1, d2⟩ := img_cells HI12.out.2.2.2.2
    by_cases hE : oneE nm v cd nm' v' cd' = 0
    · by_cases hq : nm = nm'
      · have HQ := hide (show decide (oneE nm v cd nm' v' cd' = 0 ∧ ¬ nm = nm') = false from decide_eq_false (fun h => h.2 hq))
        have HE := hide hE
        have hq2 := str_eq hq
        rw [hE]
        clear hE hq
        go_wp2
        go_meet
        exact ⟨by rw [HE.out], by rw [HQ.out], rfl⟩
      · have HQ := hide (show decide (oneE nm v cd nm' v' cd' = 0 ∧ ¬ nm = nm') = true from decide_eq_true ⟨hE, hq⟩)
        have HE := hide hE
        have hq2 := str_ne hq
        rw [hE]
        clear hE hq
        go_wp2
        go_meet
        exact ⟨by rw [HE.out], by rw [HQ.out], rfl⟩
    · have HQ := hide (show decide (oneE nm v cd nm' v' cd' = 0 ∧ ¬ nm = nm') = false from decide_eq_false (fun h => hE h.1))
      go_wp2
      go_meet
      exact ⟨rfl, by rw [HQ.out], rfl⟩
  case rest =>
  obtain ⟨rfl, rfl, rfl⟩ := hcut
  go_upto_if 71 with (fail)
  go_cut [7, 71] (fun s7 _ w' => s7 = .int .i64 (newE nm v cd nm' v' cd') ∧ w' = wc)
  case first =>
    by_cases hQ : oneE nm v cd nm' v' cd' = 0 ∧ ¬ nm = nm'
    · rw [decide_eq_true hQ]
      have HQ := hide (newE_one hQ)
      clear hQ
      go_wp2
      go_meet
      exact ⟨by rw [HQ.out], rfl⟩
    · rw [decide_eq_false hQ]
      have HQ := hide (newE_two hQ)
      clear hQ
      go_wp2
      go_meet
      exact ⟨by rw [HQ.out], rfl⟩
  case rest =>
  obtain ⟨rfl, rfl⟩ := hcut
  obtain ⟨w12, hw12⟩ : ∃ wa, wa = wc := ⟨_, rfl⟩
  subst hw12
  obtain ⟨c0, c1, c2⟩ := img_cells HI12.out.2.2.2.1
  obtain ⟨d0, d1, d2⟩ := img_cells HI12.out.2.2.2.2
  go_wp2_with (fail)
  refine (newer_any nm cd nm' cd' v v' _ h1 h2 h3 h4).mono ?_
  rintro e w13 ⟨rfl, hb13⟩
  have HI13 := hide (HI12.out.below hb13)
  clear hb13 HI12 c0 c1 c2 d0 d1 d2
  go_upto_region 17 with (fail)
  go_cut [7, 12, 16, 17, 72, 75, 76, 77] (fun _ _ _ s17 _ _ _ _ w' => s17 = .bool true ∧ Kept w (imgC nm v cd) (imgC nm' v' cd') w')
  case first =>
    by_cases hN : newE nm v cd nm' v' cd' = 0
    · rw [newV_ok hN, hN]
      clear hN
      go_wp2_with (fail)
      refine (As.same_is 0 0 _ rfl HI13.out.2.2.1).mono ?_
      rintro e w14 ⟨rfl, hb14⟩
      have HI14 := hide (HI13.out.below hb14)
      clear hb14
      obtain ⟨c0, c1, c2⟩ := img_cells HI14.out.2.2.2.1
      obtain ⟨d0, d1, d2⟩ := img_cells HI14.out.2.2.2.2
      go_wp2
      go_meet
      exact ⟨by first | rfl | simp, HI14.out⟩
    · rw [newV_bad hN]
      go_wp2_with (fail)
      refine (As.same_is _ _ _ rfl HI13.out.2.2.1).mono ?_
      rintro e w14 ⟨rfl, hb14⟩
      have HI14 := hide (HI13.out.below hb14)
      clear hb14
      go_wp2
      go_meet
      exact ⟨by first | rfl | simp, HI14.out⟩
  case rest =>
  obtain ⟨rfl, hk⟩ := hcut
  have HI15 := hide hk
  clear hk HI13
  obtain ⟨w15, hw15⟩ : ∃ wa, wa = wc := ⟨_, rfl⟩
  subst hw15
  obtain ⟨a, c, n, hc, ha8, hc8, hpar⟩ := par_shape s
  have HC := hide hc
  clear hpar hc
  go_wp2_with (fail)
  refine (Ref.read_any s _ hs).mono ?_
  rintro e w16 ⟨rfl, hb16⟩
  rw [HC.out]
  unfold imgC
  have HI16 := hide (HI15.out.below (below_on hb16 (below_new w16 (.cells #[.string a, .int .i64 n, .string c] 23))))
  have HX16 := hide (blk_new w16 (.cells #[.string a, .int .i64 n, .string c] 23))
  clear hb16 HI15
  go_wp2_with (fail)
  refine (parse_any s _ (by omega) HI16.out.2.1).mono ?_
  rintro e w17 ⟨rfl, hb17⟩
  rw [HC.out]
  unfold imgC
  have HI17 := hide (HI16.out.below (below_on hb17 (below_new w17 (.cells #[.string a, .int .i64 n, .string c] 23))))
  have HX17 := hide (blk_below HX16.out (below_on hb17 (below_new w17 (.cells #[.string a, .int .i64 n, .string c] 23))))
  have HY17 := hide (blk_new w17 (.cells #[.string a, .int .i64 n, .string c] 23))
  clear hb17 HI16 HX16
  go_wp2_with (fail)
  refine (As.same_is _ _ _ rfl HI17.out.2.2.1).mono ?_
  rintro e w18 ⟨rfl, hb18⟩
  have HB18 := hide (HI17.out.below hb18).1
  have HX18 := hide (blk_below HX17.out hb18)
  have HY18 := hide (blk_below HY17.out hb18)
  clear hb18 HI17 HX17 HY17
  obtain ⟨c0, c1, c2⟩ := img_cells (nm := a) (v := n) (cd := c) HX18.out
  obtain ⟨d0, d1, d2⟩ := img_cells (nm := a) (v := n) (cd := c) HY18.out
  go_wp2
  go_ret
  exact ⟨by first | rfl | simp, HB18.out⟩
end Go.Proofs.YtdbpeikijonjmaaDoor.ImgTells
