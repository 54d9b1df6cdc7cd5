/-
  Contracts of package key's Check and Hold over this translation: what each returns, and that memory that was there stays as it was.
-/
import Derived.Test.YtojdaifnljghkaaDoorKey2
import Derived.Deep.QuietTactic
import Derived.BigQuiet
namespace Go.Proofs.YtojdaifnljghkaaDoor.Key
open Go.ChangeShapes Go.WideShapes Go.ChangeAt Go.RowKit
open Go.Proofs.YtojdaifnljghkaaDoor.M Go.Proofs.YtojdaifnljghkaaDoor.Measure
set_option linter.unusedVariables false

theorem below_quiet {B : Nat} {a w : World} (h : Below B a w) : ∀ n, Below B a (w.drewN n)
  | 0 => h
  | n + 1 => Below.drew (below_quiet h n)

set_option maxHeartbeats 2000000 in
theorem check_form (q m p a : Int) (w : World) (h : inB q = false ∨ inB p = false ∨ ansB a = false) :
    Calls Tryd.prog 53 #[.int .i64 q, .int .i64 m, .agg (sealC p a)] w fun e w' => e = .returned (.tuple #[.bool false, .iface 72 (.int .i64 1)]) ∧ Below w.heap.size w w' := by
  have HB := hide (below_new w (.cells (sealC p a) 50))
  unfold sealC at HB ⊢
  have HF := hide h
  clear h
  cases hq : inB q with
  | false =>
    go_enter Tryd.func53, Tryd.ntmps53
    go_wp2_with (go_at_call 39; refine (public_is _ _).mono ?_; rintro e w' ⟨rfl, rfl⟩)
    go_ret2
    exact ⟨rfl, HB.out⟩
  | true =>
    cases hp : inB p with
    | false =>
      go_enter Tryd.func53, Tryd.ntmps53
      go_wp2_with (go_at_call 39; refine (public_is _ _).mono ?_; rintro e w' ⟨rfl, rfl⟩)
      go_ret2
      exact ⟨rfl, HB.out⟩
    | true =>
      by_cases h0 : a < 0
      · go_enter Tryd.func53, Tryd.ntmps53
        go_wp2_with (go_at_call 39; refine (public_is _ _).mono ?_; rintro e w' ⟨rfl, rfl⟩)
        go_ret2
        exact ⟨rfl, HB.out⟩
      · have h1 : 257 ≤ a := by
          have := HF.out
          rw [hq, hp, ansB_not] at this
          simp at this
          omega
        go_enter Tryd.func53, Tryd.ntmps53
        go_wp2_with (go_at_call 39; refine (public_is _ _).mono ?_; rintro e w' ⟨rfl, rfl⟩)
        go_ret2
        exact ⟨rfl, HB.out⟩

set_option maxHeartbeats 2000000 in
theorem check_meas (q m p a : Int) (w : World) (hq : inB q = true) (hp : inB p = true) (ha : ansB a = true) (hm : isM m = false) :
    Calls Tryd.prog 53 #[.int .i64 q, .int .i64 m, .agg (sealC p a)] w fun e w' => e = .returned (.tuple #[.bool false, .iface 72 (.int .i64 1)]) ∧ Below w.heap.size w w' := by
  have HB := hide (below_new w (.cells (sealC p a) 50))
  unfold sealC at HB ⊢
  have ar := ansB_iff.1 ha
  obtain ⟨a0, a1⟩ := ar
  have CH := hide (fun W => challenge_no p q m W (inB_isM hp) (inB_isM hq) hm)
  clear ha hm
  go_enter Tryd.func53, Tryd.ntmps53
  go_wp2_with (go_at_call 39; refine (public_is _ _).mono ?_; rintro e w' ⟨rfl, rfl⟩)
  refine (CH.out _).mono ?_
  rintro e w1 ⟨rfl, hb1⟩
  have HB1 := hide (below_on HB.out hb1)
  clear hb1 HB
  go_wp2
  go_ret2
  exact ⟨rfl, HB1.out⟩

set_option maxHeartbeats 400000 in
theorem check_ok (q m p a : Int) (w : World) (hq : inB q = true) (hp : inB p = true) (ha : ansB a = true) (hm : isM m = true) :
    Calls Tryd.prog 53 #[.int .i64 q, .int .i64 m, .agg (sealC p a)] w fun e w' => e = .returned (.tuple #[.bool (saysB q m p a), .nilIface]) ∧ Below w.heap.size w w' := by
  have HB := hide (below_new w (.cells (sealC p a) 50))
  have HG := hide (blk_new w (.cells (sealC p a) 50))
  unfold sealC at HB HG ⊢
  have ar := ansB_iff.1 ha
  obtain ⟨a0, a1⟩ := ar
  have qr := inB_iff.1 hq
  obtain ⟨q0, q1⟩ := qr
  have pr := inB_iff.1 hp
  obtain ⟨p0, p1⟩ := pr
  have CH := hide (fun W => challenge_ok p q m W (inB_isM hp) (inB_isM hq) hm)
  clear ha hm
  unfold saysB
  have c0 := chV_lo p q m
  have c1 := chV_hi p q m
  generalize chV p q m = c at *
  have PA := hide (fun W => power_any 64 a W (by omega) (by omega) a0 (by omega))
  have PC := hide (fun W => power_any q c W (by omega) (by omega) c0 (by omega))
  have u0 := pwZ_lo 64 a
  have u1 := pwZ_hi 64 a
  have v0 := pwZ_lo q c
  have v1 := pwZ_hi q c
  generalize pwZ 64 a = u at *
  generalize pwZ q c = v at *
  have hm0 : 0 ≤ p * v := Int.mul_nonneg (by omega) v0
  have hm1 : p * v ≤ 1543 * 1543 := Int.mul_le_mul (by omega) (by omega) (by omega) (by omega)
  go_enter Tryd.func53, Tryd.ntmps53
  go_wp2_with (go_at_call 39; refine (public_is _ _).mono ?_; rintro e w' ⟨rfl, rfl⟩)
  refine (CH.out _).mono ?_
  rintro e w1 ⟨rfl, hb1⟩
  have HB1 := hide (below_on HB.out hb1)
  have HG1 := hide (blk_below HG.out hb1)
  clear hb1 HB HG
  obtain ⟨r0, r1⟩ := seal_cells HG1.out
  go_wp2_with (fail)
  go_quiet (first | (go_at_call_of 34 (Value.int .i64 a); exact Calls.quiet_of_same (PA.out _)) | (go_at_call_of 34 (Value.int .i64 c); exact Calls.quiet_of_same (PC.out _)))
  go_wp2
  go_ret2
  exact ⟨by rfl, below_quiet HB1.out _⟩

theorem check_any (q m p a : Int) (w : World) :
    Calls Tryd.prog 53 #[.int .i64 q, .int .i64 m, .agg (sealC p a)] w fun e w' => e = .returned (.tuple #[.bool (chkB q m p a), errV 72 (chkC q m p a)]) ∧ Below w.heap.size w w' := by
  cases hq : inB q with
  | false =>
    have hf := form_no (m := m) (p := p) (a := a) (Or.inl hq)
    rw [chkB_no hf, chkC_no hf]
    exact check_form q m p a w (Or.inl hq)
  | true =>
    cases hp : inB p with
    | false =>
      have hf := form_no (q := q) (m := m) (a := a) (Or.inr (Or.inl hp))
      rw [chkB_no hf, chkC_no hf]
      exact check_form q m p a w (Or.inr (Or.inl hp))
    | true =>
      cases ha : ansB a with
      | false =>
        have hf := form_no (q := q) (m := m) (p := p) (Or.inr (Or.inr (Or.inr ha)))
        rw [chkB_no hf, chkC_no hf]
        exact check_form q m p a w (Or.inr (Or.inr ha))
      | true =>
        cases hm : isM m with
        | false =>
          have hf := form_no (q := q) (p := p) (a := a) (Or.inr (Or.inr (Or.inl hm)))
          rw [chkB_no hf, chkC_no hf]
          exact check_meas q m p a w hq hp ha hm
        | true =>
          have hf := formB_iff.2 ⟨hq, hp, hm, ha⟩
          rw [chkB_ok hf, chkC_ok hf]
          exact check_ok q m p a w hq hp ha hm

set_option maxHeartbeats 2000000 in
theorem hold_any (q m p a : Int) (w : World) :
    Calls Tryd.prog 41 #[.int .i64 q, .int .i64 m, .agg (sealC p a)] w fun e w' => e = .returned (errV 72 (rigC q m p a)) ∧ Below w.heap.size w w' := by
  have HB0 := hide (below_new w (.cells (sealC p a) 50))
  have CK := hide (fun W => check_any q m p a W)
  have RC := hide (rig_chk q m p a)
  unfold sealC at HB0 CK ⊢
  generalize rigC q m p a = rc at *
  generalize chkC q m p a = cc at *
  generalize chkB q m p a = cb at *
  go_enter Tryd.func41, Tryd.ntmps41
  go_wp2_with (fail)
  refine (CK.out _).mono ?_
  rintro e w2 ⟨rfl, hb2⟩
  have HB2 := hide (below_on HB0.out hb2)
  clear hb2 HB0 CK
  rcases RC.out with ⟨rfl, rfl, rfl⟩ | ⟨rfl, rfl, rfl⟩ | ⟨rfl, rfl, rfl⟩
  · rw [errV_zero]
    go_wp2
    go_ret
    exact ⟨rfl, HB2.out⟩
  · rw [errV_zero]
    go_wp2
    go_ret
    exact ⟨rfl, HB2.out⟩
  · rw [errV_one]
    go_wp2
    go_ret
    exact ⟨rfl, HB2.out⟩
end Go.Proofs.YtojdaifnljghkaaDoor.Key
