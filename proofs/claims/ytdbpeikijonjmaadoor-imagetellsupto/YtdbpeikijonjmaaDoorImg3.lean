/-
  Contracts of package image's Print, Measure and Newer: an image as text, its measure, and whether one is newer than another; memory that was there stays as it was.
-/
import Derived.Test.YtdbpeikijonjmaaDoorImg2
import Derived.Test.YtdbpeikijonjmaaDoorMeasure
import Derived.Deep.RegionHeld3
import Derived.Laws.Pointers
namespace Go.Proofs.YtdbpeikijonjmaaDoor.M
/-- An image as text. -/
def lineB (nm : ByteArray) (v : Int) (cd : ByteArray) : ByteArray := nm ++ spcB ++ { data := (Lib.itoa v).toArray } ++ spcB ++ cd
def lineV (nm : ByteArray) (v : Int) (cd : ByteArray) : ByteArray := if imgE nm v cd = 0 then lineB nm v cd else { data := #[] }
theorem lineV_ok {nm cd : ByteArray} {v : Int} (h : imgE nm v cd = 0) : lineV nm v cd = lineB nm v cd := by unfold lineV; rw [if_pos h]
theorem lineV_bad {nm cd : ByteArray} {v : Int} (h : ¬ imgE nm v cd = 0) : lineV nm v cd = { data := #[] } := by unfold lineV; rw [if_neg h]
/-- The measure of an image. -/
def meaV (nm : ByteArray) (v : Int) (cd : ByteArray) : Int := if imgE nm v cd = 0 then ofFrom 1 (lineB nm v cd).data.toList else 0
theorem meaV_ok {nm cd : ByteArray} {v : Int} (h : imgE nm v cd = 0) : meaV nm v cd = ofFrom 1 (lineB nm v cd).data.toList := by unfold meaV; rw [if_pos h]
theorem meaV_bad {nm cd : ByteArray} {v : Int} (h : ¬ imgE nm v cd = 0) : meaV nm v cd = 0 := by unfold meaV; rw [if_neg h]
/-- Which of two is newer: the fault, and the answer. -/
def newE (nm : ByteArray) (v : Int) (cd : ByteArray) (nm' : ByteArray) (v' : Int) (cd' : ByteArray) : Int :=
  if imgE nm v cd = 0 then (if imgE nm' v' cd' = 0 then (if nm = nm' then 0 else 3) else imgE nm' v' cd') else imgE nm v cd
def newV (nm : ByteArray) (v : Int) (cd : ByteArray) (nm' : ByteArray) (v' : Int) (cd' : ByteArray) : Bool := decide (newE nm v cd nm' v' cd' = 0) && decide (v' < v)
section
variable {nm cd nm' cd' : ByteArray} {v v' : Int}
theorem newE_ok (h : imgE nm v cd = 0) (h' : imgE nm' v' cd' = 0) (hq : nm = nm') : newE nm v cd nm' v' cd' = 0 := by unfold newE; rw [if_pos h, if_pos h', if_pos hq]
theorem newE_name (h : imgE nm v cd = 0) (h' : imgE nm' v' cd' = 0) (hq : ¬ nm = nm') : newE nm v cd nm' v' cd' = 3 := by unfold newE; rw [if_pos h, if_pos h', if_neg hq]
theorem newE_second (h : imgE nm v cd = 0) (h' : ¬ imgE nm' v' cd' = 0) : newE nm v cd nm' v' cd' = imgE nm' v' cd' := by unfold newE; rw [if_pos h, if_neg h']
theorem newE_first (h : ¬ imgE nm v cd = 0) : newE nm v cd nm' v' cd' = imgE nm v cd := by unfold newE; rw [if_neg h]
theorem newV_ok (h : newE nm v cd nm' v' cd' = 0) : newV nm v cd nm' v' cd' = decide (v' < v) := by unfold newV; rw [decide_eq_true h]; rfl
theorem newV_bad (h : ¬ newE nm v cd nm' v' cd' = 0) : newV nm v cd nm' v' cd' = false := by unfold newV; rw [decide_eq_false h]; rfl
end
theorem blk_two (w : World) (o o' : Obj) : ((w.alloc o).alloc o').heap[w.heap.size + 1]? = some o' := by
  have := blk_new (w.alloc o) o'
  simpa using this
theorem dec_len : ∀ (k n : Nat), n < 10 ^ (k + 1) → (Lib.decDigits n).length ≤ k + 1
  | k, n, h => by
    by_cases h10 : n < 10
    · rw [dec_small h10]; simp
    · cases k with
      | zero => omega
      | succ k =>
        rw [dec_big h10, List.length_append]
        have := dec_len k (n / 10) (by rw [Nat.pow_succ] at h; omega)
        simp only [List.length_cons, List.length_nil]
        omega
theorem itoa_four {v : Int} (h1 : 1 ≤ v) (h2 : v ≤ 1000) : ({ data := (Lib.itoa v).toArray } : ByteArray).size ≤ 4 := by
  obtain ⟨n, rfl⟩ : ∃ n : Nat, v = n := ⟨v.toNat, by omega⟩
  rw [itoa_nat]
  have := dec_len 3 n (by omega)
  show (Lib.decDigits n).toArray.size ≤ 4
  simpa using this
end Go.Proofs.YtdbpeikijonjmaaDoor.M
namespace Go.Proofs.YtdbpeikijonjmaaDoor.Image
open Go.ChangeShapes Go.WideShapes Go.ChangeAt Go.RowKit
open Go.Proofs.YtdbpeikijonjmaaDoor.M
set_option linter.unusedVariables false

theorem byte_ext {s t : ByteArray} (h : s.data.toList = t.data.toList) : s = t := by
  cases s; cases t
  congr 1
  exact Array.ext' h
theorem str_ne {s t : ByteArray} (h : ¬ s = t) : (s.toList == t.toList) = false := by
  rw [Lib.toList_data, Lib.toList_data]
  apply beq_eq_false_iff_ne.2
  exact fun e => h (byte_ext e)
theorem str_eq {s t : ByteArray} (h : s = t) : (s.toList == t.toList) = true := by
  subst h
  simp
theorem errV_ne {T : TypeId} {k : Int} (h : ¬ k = 0) : errV T k = .iface T (.int .i64 k) := by unfold errV; rw [if_neg h]

set_option maxHeartbeats 4000000 in
theorem print_any (nm cd : ByteArray) (v : Int) (w : World) (hn : nm.size ≤ 140737488351232) (hc : cd.size ≤ 140737488351232) (hh : Has w) :
    Calls Tryd.prog 12 #[.agg (imgC nm v cd)] w fun e w' => e = .returned (.tuple #[.string (lineV nm v cd), errV 45 (imgE nm v cd)]) ∧ Below w.heap.size w w' := by
  have HB := hide (below_new w (.cells (imgC nm v cd) 23))
  have HG := hide (blk_new w (.cells (imgC nm v cd) 23))
  have HH := hide hh
  clear hh
  unfold imgC at HB HG ⊢
  go_enter Tryd.func12, Tryd.ntmps12
  go_wp2_with (fail)
  refine (check_any nm cd v _ hn hc).mono ?_
  rintro e w1 ⟨rfl, hb1⟩
  have HB1 := hide (below_on HB.out hb1)
  have HG1 := hide (blk_below HG.out hb1)
  clear hb1 HB HG
  obtain ⟨c0, c1, c2⟩ := img_cells HG1.out
  by_cases hE : imgE nm v cd = 0
  · have HL := hide (lineV_ok hE)
    have HE := hide hE
    obtain ⟨z1, z2, z3, z4, z5, z6, z7⟩ := imgE_zero hE
    rw [hE, errV_zero]
    clear hE z1 z2 z3
    have HW := hide (HH.out.below HB1.out)
    have HI : Hid (∀ W, Has W → Calls Tryd.prog 22 #[.int .i64 v] W fun e w' => e = .returned (.string { data := (Lib.itoa v).toArray }) ∧ Below W.heap.size W w') := fun W hW => itoa_any v W (by omega) (by omega) hW
    have hD := itoa_four z6 z7
    rw [show lineB nm v cd = nm ++ spcB ++ { data := (Lib.itoa v).toArray } ++ spcB ++ cd from rfl] at HL
    generalize hDe : ({ data := (Lib.itoa v).toArray } : ByteArray) = D at hD HL HI
    clear hDe z6 z7
    have q1 : ¬ 9223372036854775807 < nm.size + 1 := by omega
    have q2 : ¬ 9223372036854775807 < nm.size + 1 + D.size := by omega
    have q3 : ¬ 9223372036854775807 < nm.size + 1 + D.size + 1 := by omega
    have q4 : ¬ 9223372036854775807 < nm.size + 1 + D.size + 1 + cd.size := by omega
    go_wp2_with (fail)
    go_region_held3 (fun w' => w'.cell? ⟨w.heap.size, 0, none⟩ = some (.string nm) ∧ w'.cell? ⟨w.heap.size, 1, none⟩ = some (.int .i64 v) ∧ w'.cell? ⟨w.heap.size, 2, none⟩ = some (.string cd)) (go_keep)
      (first | (go_at_call 22; refine (HI.out w1.drew (HW.out.below (Below.drew (Below.refl _ _)))).mono ?_; rintro e w2 ⟨rfl, hb2⟩; have HB2 := hide (below_on (w1 := w1.drew) (Below.drew HB1.out) hb2); have HG2 := blk_below (w := w1.drew) HG1.out hb2; clear hb2; obtain ⟨d0, d1, d2⟩ := img_cells HG2; clear HG2))
    go_wp2
    go_ret2
    exact ⟨by rw [HL.out, HE.out]; rfl, HB2.out⟩
  · have HL := hide (lineV_bad hE)
    have HX := hide (errV_ne (T := 45) hE)
    rw [errV_ne hE]
    clear hE
    go_wp2
    go_ret2
    exact ⟨by rw [HL.out, HX.out]; rfl, HB1.out⟩

theorem line_size (nm cd : ByteArray) (v : Int) (h : imgE nm v cd = 0) : (lineB nm v cd).size ≤ 22 := by
  obtain ⟨z1, z2, z3, z4, z5, z6, z7⟩ := imgE_zero h
  have hD := itoa_four z6 z7
  unfold lineB
  generalize ({ data := (Lib.itoa v).toArray } : ByteArray) = D at hD ⊢
  have hs : spcB.size = 1 := rfl
  rw [ByteArray.size_append, ByteArray.size_append, ByteArray.size_append, ByteArray.size_append, hs]
  omega

set_option maxHeartbeats 4000000 in
theorem measure_any (nm cd : ByteArray) (v : Int) (w : World) (hn : nm.size ≤ 140737488351232) (hc : cd.size ≤ 140737488351232) (hh : Has w) :
    Calls Tryd.prog 11 #[.agg (imgC nm v cd)] w fun e w' => e = .returned (.tuple #[.int .i64 (meaV nm v cd), errV 45 (imgE nm v cd)]) ∧ Below w.heap.size w w' := by
  have HB := hide (below_new w (.cells (imgC nm v cd) 23))
  have HH := hide (hh.below HB.out)
  clear hh
  unfold imgC at HB HH ⊢
  go_enter Tryd.func11, Tryd.ntmps11
  go_wp2_with (fail)
  refine (print_any nm cd v _ hn hc HH.out).mono ?_
  rintro e w1 ⟨rfl, hb1⟩
  have HB1 := hide (below_on HB.out hb1)
  clear hb1 HB
  by_cases hE : imgE nm v cd = 0
  · have HM := hide (meaV_ok hE)
    have HE := hide hE
    rw [lineV_ok hE, hE, errV_zero]
    have hs := line_size nm cd v hE
    clear hE
    go_wp2_with (fail)
    refine (Measure.of_ok _ _ (by omega)).mono ?_
    rintro e w2 ⟨rfl, rfl⟩
    go_wp2
    go_ret2
    exact ⟨by rw [HM.out, HE.out]; rfl, HB1.out⟩
  · have HM := hide (meaV_bad hE)
    have HX := hide (errV_ne (T := 45) hE)
    rw [lineV_bad hE, errV_ne hE]
    clear hE
    go_wp2
    go_ret2
    exact ⟨by rw [HM.out, HX.out]; rfl, HB1.out⟩

set_option maxHeartbeats 4000000 in
theorem newer_any (nm cd nm' cd' : ByteArray) (v v' : Int) (w : World) (hn : nm.size ≤ 140737488351232) (hc : cd.size ≤ 140737488351232) (hn' : nm'.size ≤ 140737488351232) (hc' : cd'.size ≤ 140737488351232) :
    Calls Tryd.prog 13 #[.agg (imgC nm v cd), .agg (imgC nm' v' cd')] w fun e w' => e = .returned (.tuple #[.bool (newV nm v cd nm' v' cd'), errV 45 (newE nm v cd nm' v' cd')]) ∧ Below w.heap.size w w' := by
  have HB := hide (below_on (below_new w (.cells (imgC nm v cd) 23)) (below_new _ (.cells (imgC nm' v' cd') 23)))
  have HG := hide (blk_keep (blk_new w (.cells (imgC nm v cd) 23)) (.cells (imgC nm' v' cd') 23))
  have HK := hide (blk_two w (.cells (imgC nm v cd) 23) (.cells (imgC nm' v' cd') 23))
  unfold imgC at HB HG HK ⊢
  go_enter Tryd.func13, Tryd.ntmps13
  go_wp2_with (fail)
  refine (check_any nm cd v _ hn hc).mono ?_
  rintro e w1 ⟨rfl, hb1⟩
  have HB1 := hide (below_on HB.out hb1)
  have HG1 := hide (blk_below HG.out hb1)
  have HK1 := hide (blk_below HK.out hb1)
  clear hb1 HB HG HK
  obtain ⟨c10, c11, c12⟩ := img_cells HG1.out
  obtain ⟨d10, d11, d12⟩ := img_cells HK1.out
  by_cases hE : imgE nm v cd = 0
  · have HE := hide hE
    rw [hE, errV_zero]
    clear hE
    go_wp2_with (fail)
    refine (check_any nm' cd' v' _ hn' hc').mono ?_
    rintro e w2 ⟨rfl, hb2⟩
    have HB2 := hide (below_on HB1.out hb2)
    have HG2 := hide (blk_below HG1.out hb2)
    have HK2 := hide (blk_below HK1.out hb2)
    clear hb2 HB1 HG1 HK1 c10 c11 c12 d10 d11 d12
    obtain ⟨c10, c11, c12⟩ := img_cells HG2.out
    obtain ⟨d10, d11, d12⟩ := img_cells HK2.out
    by_cases hF : imgE nm' v' cd' = 0
    · have HF := hide hF
      rw [hF, errV_zero]
      clear hF
      by_cases hq : nm = nm'
      · have HQ := hide (newE_ok HE.out HF.out hq)
        have HV := hide (newV_ok HQ.out)
        subst hq
        go_wp2
        go_ret2
        exact ⟨by rw [HQ.out, HV.out]; rfl, HB2.out⟩
      · have HQ := hide (newE_name HE.out HF.out hq)
        have HV := hide (newV_bad (by rw [HQ.out]; decide))
        have hq2 := str_ne hq
        go_wp2
        go_ret2
        exact ⟨by rw [HQ.out, HV.out]; rfl, HB2.out⟩
    · have HQ := hide (newE_second (nm := nm) HE.out hF)
      have HV := hide (newV_bad (by rw [HQ.out]; exact hF))
      have HX := hide (errV_ne (T := 45) hF)
      rw [errV_ne hF]
      clear hF
      go_wp2
      go_ret2
      exact ⟨by rw [HQ.out, HV.out, HX.out]; rfl, HB2.out⟩
  · have HQ := hide (newE_first (nm' := nm') (v' := v') (cd' := cd') hE)
    have HV := hide (newV_bad (by rw [HQ.out]; exact hE))
    have HX := hide (errV_ne (T := 45) hE)
    rw [errV_ne hE]
    clear hE
    go_wp2
    go_ret2
    exact ⟨by rw [HQ.out, HV.out, HX.out]; rfl, HB1.out⟩
end Go.Proofs.YtdbpeikijonjmaaDoor.Image
