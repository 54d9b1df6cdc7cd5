/-
  The walk of stairlaw1.KeyTells: it returns true, and memory that was there stays as it was.
-/
import Derived.Test.YtlmalnbfmokpoabDoorKeyRef2
import Derived.Test.YtlmalnbfmokpoabDoorAs
namespace Go.Proofs.YtlmalnbfmokpoabDoor.KeyTells
open Go.ChangeShapes Go.WideShapes Go.ChangeAt Go.RowKit
open Go.Proofs.YtlmalnbfmokpoabDoor.M Go.Proofs.YtlmalnbfmokpoabDoor.Key
set_option linter.unusedVariables false

/-- What the walk carries: the seal lies where it was laid, and all that was there is as it was. -/
def Kept (w0 : World) (p a : Int) (W : World) : Prop :=
  Below w0.heap.size w0 W ∧ W.heap[w0.heap.size]? = some (.cells #[.int .i64 p, .int .i64 a] 45)
theorem Kept.below {w0 W W' : World} {p a : Int} (h : Kept w0 p a W) (hb : Below W.heap.size W W') : Kept w0 p a W' :=
  ⟨below_on h.1 hb, blk_below h.2 hb⟩
theorem Kept.start (w0 : World) (p a : Int) : Kept w0 p a (w0.alloc (.cells #[.int .i64 p, .int .i64 a] 45)) :=
  ⟨below_new _ _, blk_new _ _⟩
theorem Kept.set {w0 W : World} {p a : Int} {b : Nat} (h : Kept w0 p a W) (hb : w0.heap.size < b) (c : Array Value) : Kept w0 p a (W.setRow b c) :=
  ⟨below_setRow h.1 (by omega) _, by rw [setRow_other _ _ _ _ (by omega)]; exact h.2⟩
theorem Kept.handle {w0 W : World} {p a : Int} (h : Kept w0 p a W) (hg : As.Handle w0) : As.Handle W := hg.below h.1

set_option maxRecDepth 20000 in
set_option maxHeartbeats 4000000 in
theorem walk (x k m q p a : Int) (w : World) (hg : As.Handle w) :
    Calls Tryd.prog 6 #[.int .i64 x, .int .i64 k, .int .i64 m, .int .i64 q, .agg (sealC p a)] w fun e w' => e = .returned (.bool true) ∧ Below w.heap.size w w' := by
  have HI := hide (Kept.start w p a)
  have HG := hide hg
  clear hg
  unfold sealC
  go_enter Tryd.func6, Tryd.ntmps6
  go_wp2_with (fail)
  refine (Ref.secret_any x _).mono ?_
  rintro e w1 ⟨rfl, rfl⟩
  go_upto_if 25 with (fail)
  go_cut [11, 12, 13, 24, 25] (fun s11 s12 _ _ _ w' => s11 = .int .i64 (pubC x) ∧ s12 = .int .i64 (pubV x) ∧ Kept w p a w')
  case first =>
    cases hx : secB x with
    | true =>
      have hr := secB_iff.1 hx
      obtain ⟨x0, x1⟩ := hr
      have E1 := hide (pubC_ok hx)
      have E2 := hide (pubV_ok hx)
      clear hx
      go_wp2_with (fail)
      refine (Ref.power_any 64 x _ (by omega) (by omega) (by omega) (by omega)).mono ?_
      rintro e w1 ⟨rfl, rfl⟩
      go_wp2
      go_meet
      exact ⟨by rw [E1.out], by rw [E2.out], HI.out⟩
    | false =>
      have E1 := hide (pubC_no hx)
      have E2 := hide (pubV_no hx)
      clear hx
      go_wp2
      go_meet
      exact ⟨by rw [E1.out], by rw [E2.out], HI.out⟩
  case rest =>
  obtain ⟨rfl, rfl, hk⟩ := hcut
  have HI1 := hide hk
  clear hk HI
  obtain ⟨wa, hwa⟩ : ∃ wa, wa = wc := ⟨_, rfl⟩
  subst hwa
  go_wp2_with (fail)
  refine (public_any x _).mono ?_
  rintro e w2 ⟨rfl, rfl⟩
  go_wp2_with (fail)
  refine (As.same_is _ _ _ rfl (HI1.out.handle HG.out)).mono ?_
  rintro e w3 ⟨rfl, hb3⟩
  have HI3 := hide (HI1.out.below hb3)
  clear hb3 HI1
  go_wp2_with (fail)
  refine (Ref.signed_any x k m _).mono ?_
  rintro e w4 ⟨rfl, rfl⟩
  have HI4 := hide (HI3.out.below (below_new w4 (.cells #[.int .i64 0, .int .i64 0] 45)))
  have HW4 := hide (blk_new w4 (.cells #[.int .i64 0, .int .i64 0] 45))
  have hlt := blk_lt HI3.out.2
  clear HI3
  have SG := hide (fun W => sign_any x k m W)
  have SR := hide (fun (W : World) (h : sigC x k m = 0) => Ref.sign_ok x k m W (sigC_zero h).1 (sigC_zero h).2.1 (sigC_zero h).2.2)
  have SZ : Hid (sigC x k m = 0 ∨ (sigP x k m = 0 ∧ sigA x k m = 0)) := by
    by_cases h : sigC x k m = 0
    · exact Or.inl h
    · refine Or.inr ?_
      unfold sigC at h
      unfold sigP sigA
      split at h
      · exact absurd rfl h
      · rename_i hn
        rw [if_neg hn, if_neg hn]
        exact ⟨rfl, rfl⟩
  unfold sealC at SG SR
  generalize sigC x k m = z at *
  generalize sigP x k m = sp at *
  generalize sigA x k m = sa at *
  go_upto_region 11 with (fail)
  go_cut [11, 44, 45, 46] (fun s11 _ _ s46 w' => s11 = .int .i64 z ∧ s46 = .bool (decide (z = 0)) ∧ w' = (w4.alloc (.cells #[.int .i64 0, .int .i64 0] 45)))
  case first =>
    by_cases hz : z = 0
    · have D := hide (decide_eq_true hz)
      go_wp2
      go_meet
      exact ⟨by rw [hz], by rw [D.out], rfl⟩
    · have D := hide (decide_eq_false hz)
      go_wp2
      go_meet
      exact ⟨rfl, by rw [D.out, beq_eq_false_iff_ne.2 hz], rfl⟩
  case rest =>
  obtain ⟨rfl, rfl, rfl⟩ := hcut
  go_upto_if 46 with (fail)
  go_cut [46] (fun _ w' => Kept w p a w' ∧ w'.heap[w4.heap.size]? = some (.cells #[.int .i64 sp, .int .i64 sa] 45))
  case first =>
    by_cases hz : z = 0
    · rw [decide_eq_true hz]
      have HZ := hide hz
      clear hz
      go_wp2_with (fail)
      refine (SR.out _ HZ.out).mono ?_
      rintro e w5 ⟨rfl, hb5⟩
      have HI5 := hide (HI4.out.below hb5)
      have HW5 := hide (blk_below HW4.out hb5)
      clear hb5
      obtain ⟨r0, r1⟩ := seal_cells HW5.out
      obtain ⟨g0, g1⟩ := seal_free HW5.out
      go_wp2
      rw [two_set HW5.out]
      go_meet
      exact ⟨HI5.out.set hlt _, setRow_heap _ _ _ _ _ _ HW5.out⟩
    · rw [decide_eq_false hz]
      obtain ⟨z1, z2⟩ := SZ.out.resolve_left hz
      have HW4' := hide (show (w4.alloc (.cells #[.int .i64 0, .int .i64 0] 45)).heap[w4.heap.size]? = some (.cells #[.int .i64 sp, .int .i64 sa] 45) by rw [z1, z2]; exact HW4.out)
      clear z1 z2
      go_wp2
      go_meet
      exact ⟨HI4.out, HW4'.out⟩
  case rest =>
  obtain ⟨hk, hw5⟩ := hcut
  have HI5 := hide hk
  have HW5 := hide hw5
  clear hk hw5 HI4 HW4 SR SZ
  obtain ⟨w5, hwa⟩ : ∃ wa, wa = wc := ⟨_, rfl⟩
  subst hwa
  go_wp2_with (fail)
  refine (SG.out _).mono ?_
  rintro e w6 ⟨rfl, hb6⟩
  have hb7 := below_on hb6 (below_new w6 (.cells #[.int .i64 sp, .int .i64 sa] 45))
  have HI7 := hide (HI5.out.below hb7)
  have HW7 := hide (blk_below HW5.out hb7)
  have HV7 := hide (blk_new w6 (.cells #[.int .i64 sp, .int .i64 sa] 45))
  clear hb6 hb7 HI5 HW5
  go_wp2_with (fail)
  refine (As.same_is _ _ _ rfl (HI7.out.handle HG.out)).mono ?_
  rintro e w8 ⟨rfl, hb8⟩
  have HI8 := hide (HI7.out.below hb8)
  have HW8 := hide (blk_below HW7.out hb8)
  have HV8 := hide (blk_below HV7.out hb8)
  clear hb8 HI7 HW7 HV7
  obtain ⟨r0, r1⟩ := seal_cells HW8.out
  obtain ⟨t0, t1⟩ := seal_cells HV8.out
  obtain ⟨v0, v1⟩ := seal_cells HI8.out.2
  go_wp2_with (fail)
  refine (Ref.right_any q m p a _).mono ?_
  rintro e w9 ⟨rfl, hb9⟩
  have HI9 := hide (HI8.out.below hb9)
  clear hb9 HI8 HW8 HV8 r0 r1 t0 t1 v0 v1 SG
  have CK := hide (fun W => check_any q m p a W)
  unfold sealC at CK
  have RC := hide (rig_chk q m p a)
  generalize rigC q m p a = rc at *
  generalize chkC q m p a = cc at *
  generalize chkB q m p a = cb at *
  obtain ⟨v0, v1⟩ := seal_cells HI9.out.2
  rcases RC.out with ⟨rfl, rfl, rfl⟩ | ⟨rfl, rfl, rfl⟩ | ⟨rfl, rfl, rfl⟩
  all_goals
    go_wp2_with (fail)
    refine (CK.out _).mono ?_
    rintro e w10 ⟨rfl, hb10⟩
    have HI10 := hide (HI9.out.below hb10)
    clear hb10 HI9 v0 v1
    go_wp2_with (fail)
    refine (As.same_is _ _ _ rfl (HI10.out.handle HG.out)).mono ?_
    rintro e w11 ⟨rfl, hb11⟩
    have HB11 := hide (below_on HI10.out.1 hb11)
    clear hb11 HI10
    go_wp2
    go_ret
    exact ⟨rfl, HB11.out⟩
end Go.Proofs.YtlmalnbfmokpoabDoor.KeyTells
