/-
  Contracts of what package stairref1 says on keys and seals (Secret, In, Power, Sign, Signed, Right): each returns what the plain mathematics says, and memory that was there stays as it was.
-/
import Derived.Test.YtjkcplpmhjnahaaGreatDoorQKeyRef1
import Derived.Test.YtjkcplpmhjnahaaGreatDoorPack1
namespace Go.Proofs.YtjkcplpmhjnahaaGreatDoor.M
theorem rem_two {n : Nat} : (n : Int) % 2 = ((n % 2 : Nat) : Int) := by omega
theorem pw_round_even {a n : Nat} (h : n % 2 = 0) : ((pw a n : Nat) : Int) = ((pw a (n / 2) : Nat) : Int) * ((pw a (n / 2) : Nat) : Int) % 1543 := by
  rw [pw_half_even h]
  simp [Int.natCast_mul]
theorem pw_round_odd {a n : Nat} (h : n % 2 = 1) : ((pw a n : Nat) : Int) = (((pw a (n / 2) : Nat) : Int) * ((pw a (n / 2) : Nat) : Int) % 1543) * (a : Int) % 1543 := by
  rw [pw_half_odd h, Int.natCast_emod, Int.natCast_mul, Int.natCast_emod, Int.natCast_mul]
  rfl
end Go.Proofs.YtjkcplpmhjnahaaGreatDoor.M
namespace Go.Proofs.YtjkcplpmhjnahaaGreatDoor.Ref
open Go.ChangeShapes Go.WideShapes Go.ChangeAt Go.RowKit
open Go.Proofs.YtjkcplpmhjnahaaGreatDoor.M Go.Proofs.YtjkcplpmhjnahaaGreatDoor.Key
set_option linter.unusedVariables false

theorem secret_any (n : Int) (w : World) :
    Calls Tryz.prog 20 #[.int .i64 n] w fun e w' => e = .returned (.bool (secB n)) ∧ w' = w := by
  by_cases h0 : 1 ≤ n
  · by_cases h1 : n ≤ 256
    · rw [secB_iff.2 ⟨h0, by omega⟩]
      go_enter Tryz.func20, Tryz.ntmps20
      go_wp2
      go_ret
      exact ⟨rfl, rfl⟩
    · rw [secB_not.2 (by omega)]
      go_enter Tryz.func20, Tryz.ntmps20
      go_wp2
      go_ret
      exact ⟨rfl, rfl⟩
  · rw [secB_not.2 (by omega)]
    go_enter Tryz.func20, Tryz.ntmps20
    go_wp2
    go_ret
    exact ⟨rfl, rfl⟩

theorem in_any (n : Int) (w : World) :
    Calls Tryz.prog 41 #[.int .i64 n] w fun e w' => e = .returned (.bool (inB n)) ∧ w' = w := by
  by_cases h0 : 1 ≤ n
  · by_cases h1 : n ≤ 1542
    · rw [inB_iff.2 ⟨h0, by omega⟩]
      go_enter Tryz.func41, Tryz.ntmps41
      go_wp2
      go_ret
      exact ⟨rfl, rfl⟩
    · rw [inB_not.2 (by omega)]
      go_enter Tryz.func41, Tryz.ntmps41
      go_wp2
      go_ret
      exact ⟨rfl, rfl⟩
  · rw [inB_not.2 (by omega)]
    go_enter Tryz.func41, Tryz.ntmps41
    go_wp2
    go_ret
    exact ⟨rfl, rfl⟩

set_option maxHeartbeats 1000000 in
theorem power_nat : ∀ (f a n : Nat) (w : World), n ≤ f → a < 1543 → n ≤ 1000000 → Calls Tryz.prog 21 #[.int .i64 a, .int .i64 n] w fun e w' => e = .returned (.int .i64 (pw a n : Nat)) ∧ w' = w
  | f, a, n, w, hf, ha, hm => by
    by_cases h : n = 0
    · subst h
      have E := hide (pw_zero a)
      go_enter Tryz.func21, Tryz.ntmps21
      go_wp2
      go_ret
      exact ⟨by rw [E.out]; rfl, rfl⟩
    · cases f with
      | zero => omega
      | succ f =>
        have IH := hide (fun W => power_nat f a (n / 2) W (by omega) ha (by omega))
        have hz : ¬ (n : Int) = 0 := by omega
        have HQ := hide (show (n : Int) / 2 = ((n / 2 : Nat) : Int) by omega)
        have h0 := pw_lt a (n / 2)
        by_cases hr : n % 2 = 0
        · have E := hide (pw_round_even (a := a) hr)
          have hr2 : (n : Int) % 2 = 0 := by omega
          generalize pw a (n / 2) = q at *
          have m0 : 0 ≤ (q : Int) * q := Int.mul_nonneg (by omega) (by omega)
          have m1 : (q : Int) * q ≤ 1543 * 1543 := Int.mul_le_mul (by omega) (by omega) (by omega) (by omega)
          clear h hr
          go_enter Tryz.func21, Tryz.ntmps21
          go_wp2_with (fail)
          rw [HQ.out]
          refine (IH.out _).mono ?_
          rintro e w1 ⟨rfl, rfl⟩
          go_wp2
          go_ret
          exact ⟨by rw [E.out]; rfl, rfl⟩
        · have E := hide (pw_round_odd (a := a) (n := n) (by omega))
          have hr2 : (n : Int) % 2 = 1 := by omega
          generalize pw a (n / 2) = q at *
          have m0 : 0 ≤ (q : Int) * q := Int.mul_nonneg (by omega) (by omega)
          have m1 : (q : Int) * q ≤ 1543 * 1543 := Int.mul_le_mul (by omega) (by omega) (by omega) (by omega)
          have m2 : 0 ≤ (q : Int) * q % 1543 * a := Int.mul_nonneg (by omega) (by omega)
          have m3 : (q : Int) * q % 1543 * a ≤ 1543 * 1543 := Int.mul_le_mul (by omega) (by omega) (by omega) (by omega)
          clear h hr
          go_enter Tryz.func21, Tryz.ntmps21
          go_wp2_with (fail)
          rw [HQ.out]
          refine (IH.out _).mono ?_
          rintro e w1 ⟨rfl, rfl⟩
          go_wp2
          go_ret
          exact ⟨by rw [E.out]; rfl, rfl⟩
theorem power_any (a n : Int) (w : World) (ha0 : 0 ≤ a) (ha : a < 1543) (hn0 : 0 ≤ n) (hn : n < 1000) :
    Calls Tryz.prog 21 #[.int .i64 a, .int .i64 n] w fun e w' => e = .returned (.int .i64 (pwZ a n)) ∧ w' = w := by
  obtain ⟨a, rfl⟩ : ∃ k : Nat, a = k := ⟨a.toNat, by omega⟩
  obtain ⟨n, rfl⟩ : ∃ k : Nat, n = k := ⟨n.toNat, by omega⟩
  exact power_nat n a n w (Nat.le_refl _) (by omega) (by omega)

set_option maxHeartbeats 1000000 in
theorem signed_any (x k m : Int) (w : World) :
    Calls Tryz.prog 26 #[.int .i64 x, .int .i64 k, .int .i64 m] w fun e w' => e = .returned (.int .i64 (sigC x k m)) ∧ w' = w := by
  cases hx : secB x with
  | false =>
    rw [(sig_no (k := k) (m := m) (Or.inl hx)).1]
    go_enter Tryz.func26, Tryz.ntmps26
    go_wp2_with (first | (go_at_call 20; refine (secret_any _ _).mono ?_; rintro e w' ⟨rfl, rfl⟩) | (go_at_call 16; refine (is_any _ _).mono ?_; rintro e w' ⟨rfl, rfl⟩))
    go_ret
    exact ⟨rfl, rfl⟩
  | true =>
    cases hk : secB k with
    | false =>
      rw [(sig_no (x := x) (m := m) (Or.inr (Or.inl hk))).1]
      go_enter Tryz.func26, Tryz.ntmps26
      go_wp2_with (first | (go_at_call 20; refine (secret_any _ _).mono ?_; rintro e w' ⟨rfl, rfl⟩) | (go_at_call 16; refine (is_any _ _).mono ?_; rintro e w' ⟨rfl, rfl⟩))
      go_ret
      exact ⟨rfl, rfl⟩
    | true =>
      cases hm : isM m with
      | false =>
        rw [(sig_no (x := x) (k := k) (Or.inr (Or.inr hm))).1]
        go_enter Tryz.func26, Tryz.ntmps26
        go_wp2_with (first | (go_at_call 20; refine (secret_any _ _).mono ?_; rintro e w' ⟨rfl, rfl⟩) | (go_at_call 16; refine (is_any _ _).mono ?_; rintro e w' ⟨rfl, rfl⟩))
        go_ret
        exact ⟨rfl, rfl⟩
      | true =>
        rw [sigC_ok hx hk hm]
        go_enter Tryz.func26, Tryz.ntmps26
        go_wp2_with (first | (go_at_call 20; refine (secret_any _ _).mono ?_; rintro e w' ⟨rfl, rfl⟩) | (go_at_call 16; refine (is_any _ _).mono ?_; rintro e w' ⟨rfl, rfl⟩))
        go_ret
        exact ⟨rfl, rfl⟩

theorem results_alone {fn : Func} {p : Tmp} {ty : TypeId} (h : fn.results = #[.cell p ty]) (tmps : Array Value) (P : Program) (w : World) :
    (results fn tmps).run P w = ((asAddr (tmps.getD p undef)).run P w).andThen fun a w1 => (loadVar ty a).run P w1 := by
  simp only [results, h]
  simp [Sem.run_bind, Result.andThen]
theorem results_one {fn : Func} {p : Tmp} (h : fn.results = #[.cell p 64]) (tmps : Array Value) (w : World) (b : Nat) (c : Array Value) (hp : tmps.getD p undef = .pointer (some ⟨b, 0, none⟩))
    (hg : w.heap[b]? = some (.cells c 64)) (hs : c.size = 2) : (results fn tmps).run Tryz.prog w = .ok (.agg c) w := by
  rw [results_alone h, hp]
  simp [asAddr, load_seal hg hs, Result.andThen]

set_option maxHeartbeats 2000000 in
theorem sign_ok (x k m : Int) (w : World) (hx : secB x = true) (hk : secB k = true) (hm : isM m = true) :
    Calls Tryz.prog 27 #[.int .i64 x, .int .i64 k, .int .i64 m] w fun e w' => e = .returned (.agg (sealC (sigP x k m) (sigA x k m))) ∧ Below w.heap.size w w' := by
  have HB0 := hide (below_new w (.cells #[.int .i64 0, .int .i64 0] 64))
  have HG0 := hide (blk_new w (.cells #[.int .i64 0, .int .i64 0] 64))
  have xr := secB_iff.1 hx
  have kr := secB_iff.1 hk
  obtain ⟨x0, x1⟩ := xr
  obtain ⟨k0, k1⟩ := kr
  have PX := hide (fun W => power_any 64 x W (by omega) (by omega) (by omega) (by omega))
  have PK := hide (fun W => power_any 64 k W (by omega) (by omega) (by omega) (by omega))
  have MX := hide (inB_isM (pwZ_in x))
  have MK := hide (inB_isM (pwZ_in k))
  have HM := hide hm
  rw [sigP_ok hx hk hm, sigA_ok hx hk hm]
  unfold sigH
  clear hx hk hm
  generalize pwZ 64 x = q at *
  generalize pwZ 64 k = p at *
  have CH := hide (fun W => challenge_ok p q m W MK.out MX.out HM.out)
  have c0 := chV_lo p q m
  have c1 := chV_hi p q m
  generalize chV p q m = c at *
  have hm0 : 0 ≤ c * x := Int.mul_nonneg c0 (by omega)
  have hm1 : c * x ≤ 257 * 257 := Int.mul_le_mul (by omega) (by omega) (by omega) (by omega)
  go_enter Tryz.func27, Tryz.ntmps27
  go_wp2_with (fail)
  refine (PK.out _).mono ?_
  rintro e w1 ⟨rfl, rfl⟩
  go_wp2_with (fail)
  refine (PX.out _).mono ?_
  rintro e w1 ⟨rfl, rfl⟩
  go_wp2_with (fail)
  refine (CH.out _).mono ?_
  rintro e w1 ⟨rfl, hb1⟩
  have HB1 := hide (below_on HB0.out hb1)
  have HG1 := hide (blk_below HG0.out hb1)
  clear hb1 HB0 HG0
  obtain ⟨r0, r1⟩ := seal_cells HG1.out
  obtain ⟨g0, g1⟩ := seal_free HG1.out
  go_wp2
  rw [two_set HG1.out]
  refine bodyPost_ret (v := .agg (sealC p ((k + c * x) % 257))) ?_ rfl ⟨?_, ?_⟩
  · exact results_one (p := 6) rfl _ _ w.heap.size _ rfl (setRow_heap _ _ _ _ _ _ HG1.out) rfl
  · rfl
  · exact below_setRow HB1.out (by omega) _

set_option maxHeartbeats 2000000 in
theorem right_no (q m p a : Int) (w : World) (h : formB q m p a = false) :
    Calls Tryz.prog 28 #[.int .i64 q, .int .i64 m, .agg (sealC p a)] w fun e w' => e = .returned (.int .i64 1) ∧ Below w.heap.size w w' := by
  have HB := hide (below_new w (.cells (sealC p a) 64))
  unfold sealC at HB ⊢
  have HF := hide h
  clear h
  cases hq : inB q with
  | false =>
    go_enter Tryz.func28, Tryz.ntmps28
    go_wp2_with (first | (go_at_call 41; refine (in_any _ _).mono ?_; rintro e w' ⟨rfl, rfl⟩) | (go_at_call 16; refine (is_any _ _).mono ?_; rintro e w' ⟨rfl, rfl⟩))
    go_ret
    exact ⟨rfl, HB.out⟩
  | true =>
    cases hp : inB p with
    | false =>
      go_enter Tryz.func28, Tryz.ntmps28
      go_wp2_with (first | (go_at_call 41; refine (in_any _ _).mono ?_; rintro e w' ⟨rfl, rfl⟩) | (go_at_call 16; refine (is_any _ _).mono ?_; rintro e w' ⟨rfl, rfl⟩))
      go_ret
      exact ⟨rfl, HB.out⟩
    | true =>
      cases hm : isM m with
      | false =>
        go_enter Tryz.func28, Tryz.ntmps28
        go_wp2_with (first | (go_at_call 41; refine (in_any _ _).mono ?_; rintro e w' ⟨rfl, rfl⟩) | (go_at_call 16; refine (is_any _ _).mono ?_; rintro e w' ⟨rfl, rfl⟩))
        go_ret
        exact ⟨rfl, HB.out⟩
      | true =>
        by_cases h0 : a < 0
        · go_enter Tryz.func28, Tryz.ntmps28
          go_wp2_with (first | (go_at_call 41; refine (in_any _ _).mono ?_; rintro e w' ⟨rfl, rfl⟩) | (go_at_call 16; refine (is_any _ _).mono ?_; rintro e w' ⟨rfl, rfl⟩))
          go_ret
          exact ⟨rfl, HB.out⟩
        · have h1 : 256 < a := by
            have := HF.out
            unfold formB at this
            rw [hq, hp, hm] at this
            have h2 : ansB a = false := this
            have := ansB_not.1 h2
            omega
          go_enter Tryz.func28, Tryz.ntmps28
          go_wp2_with (first | (go_at_call 41; refine (in_any _ _).mono ?_; rintro e w' ⟨rfl, rfl⟩) | (go_at_call 16; refine (is_any _ _).mono ?_; rintro e w' ⟨rfl, rfl⟩))
          go_ret
          exact ⟨rfl, HB.out⟩

set_option maxHeartbeats 2000000 in
theorem right_ok (q m p a : Int) (w : World) (h : formB q m p a = true) :
    Calls Tryz.prog 28 #[.int .i64 q, .int .i64 m, .agg (sealC p a)] w fun e w' => e = .returned (.int .i64 (rigC q m p a)) ∧ Below w.heap.size w w' := by
  have HB := hide (below_new w (.cells (sealC p a) 64))
  have HG := hide (blk_new w (.cells (sealC p a) 64))
  unfold sealC at HB HG ⊢
  have HY := hide (fun hs => rigC_yes h hs)
  have HE := hide (fun hs => rigC_else h hs)
  have hf := formB_iff.1 h
  obtain ⟨hq, hp, hm, ha⟩ := hf
  have ar := ansB_iff.1 ha
  obtain ⟨a0, a1⟩ := ar
  have qr := inB_iff.1 hq
  obtain ⟨q0, q1⟩ := qr
  have pr := inB_iff.1 hp
  obtain ⟨p0, p1⟩ := pr
  have CH := hide (fun W => challenge_ok p q m W (inB_isM hp) (inB_isM hq) hm)
  clear ha h
  have HS := hide (show saysB q m p a = decide (pwZ 64 a = p * pwZ q (chV p q m) % 1543) from rfl)
  generalize rigC q m p a = r at *
  generalize saysB q m p a = s at *
  have c0 := chV_lo p q m
  have c1 := chV_hi p q m
  generalize chV p q m = c at *
  have PA := hide (fun W => power_any 64 a W (by omega) (by omega) a0 (by omega))
  have PC := hide (fun W => power_any q c W (by omega) (by omega) c0 (by omega))
  have u0 := pwZ_lo 64 a
  have u1 := pwZ_hi 64 a
  have v0 := pwZ_lo q c
  have v1 := pwZ_hi q c
  generalize pwZ 64 a = u at *
  generalize pwZ q c = v at *
  have hm0 : 0 ≤ p * v := Int.mul_nonneg (by omega) v0
  have hm1 : p * v ≤ 1543 * 1543 := Int.mul_le_mul (by omega) (by omega) (by omega) (by omega)
  have ha256 : a ≤ 256 := by omega
  go_enter Tryz.func28, Tryz.ntmps28
  go_wp2_with (first | (go_at_call 41; refine (in_any _ _).mono ?_; rintro e w' ⟨rfl, rfl⟩) | (go_at_call 16; refine (is_any _ _).mono ?_; rintro e w' ⟨rfl, rfl⟩))
  refine (CH.out _).mono ?_
  rintro e w1 ⟨rfl, hb1⟩
  have HB1 := hide (below_on HB.out hb1)
  have HG1 := hide (blk_below HG.out hb1)
  clear hb1 HB HG
  obtain ⟨r0, r1⟩ := seal_cells HG1.out
  go_wp2_with (fail)
  go_quiet (first | (go_at_call_of 21 (Value.int .i64 a); exact Calls.quiet_of_same (PA.out _)) | (go_at_call_of 21 (Value.int .i64 c); exact Calls.quiet_of_same (PC.out _)))
  by_cases hs : u = p * v % 1543
  · have E := hide (HY.out (HS.out.trans (decide_eq_true hs)))
    go_wp2
    go_ret
    exact ⟨by rw [E.out]; rfl, below_quiet HB1.out _⟩
  · have E := hide (HE.out (HS.out.trans (decide_eq_false hs)))
    go_wp2
    go_ret
    exact ⟨by rw [E.out]; rfl, below_quiet HB1.out _⟩

theorem right_any (q m p a : Int) (w : World) :
    Calls Tryz.prog 28 #[.int .i64 q, .int .i64 m, .agg (sealC p a)] w fun e w' => e = .returned (.int .i64 (rigC q m p a)) ∧ Below w.heap.size w w' := by
  cases h : formB q m p a with
  | true => exact right_ok q m p a w h
  | false => rw [rigC_no h]; exact right_no q m p a w h
end Go.Proofs.YtjkcplpmhjnahaaGreatDoor.Ref
