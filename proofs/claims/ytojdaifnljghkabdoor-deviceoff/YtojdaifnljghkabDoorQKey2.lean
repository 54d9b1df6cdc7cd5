/-
  Contracts of package key's challenge, Sign and Check over this translation: what each returns, and that memory that was there stays as it was.
-/
import Derived.Test.YtojdaifnljghkabDoorPack1
import Derived.Deep.WholeRow
import Derived.Laws.ResultCell
import Derived.Laws.CopyOwn
import Derived.Deep.DeepCutAuto
namespace Go.Proofs.YtojdaifnljghkabDoor.Key
open Go.ChangeShapes Go.WideShapes Go.ChangeAt Go.RowKit
open Go.Proofs.YtojdaifnljghkabDoor.M Go.Proofs.YtojdaifnljghkabDoor.Measure
set_option linter.unusedVariables false

set_option maxHeartbeats 1000000 in
theorem challenge_ok (p q m : Int) (w : World) (hp : isM p = true) (hq : isM q = true) (hm : isM m = true) :
    Calls Tryd.prog 46 #[.int .i64 p, .int .i64 q, .int .i64 m] w fun e w' => e = .returned (.tuple #[.int .i64 (chV p q m), .nilIface]) ∧ Below w.heap.size w w' := by
  have HO := hide (show okAll [p, q, m] = true by rw [ok_three hp hq, hm])
  have HC := hide (chV_ok hp hq hm)
  have hr := allFrom_range 0 [p, q, m] (by omega) (by omega)
  clear hp hq hm
  obtain ⟨r0, r1⟩ := hr
  go_enter Tryd.func46, Tryd.ntmps46
  go_wp2_with (fail)
  refine (all_ok _ [p, q, m] 3 _ _ rfl (by omega) (Row.three (blk_new _ _)) HO.out).mono ?_
  rintro e w1 ⟨rfl, rfl⟩
  generalize allFrom 0 [p, q, m] = r at *
  go_wp2
  go_ret2
  exact ⟨by rw [HC.out]; rfl, below_new _ _⟩

set_option maxHeartbeats 1000000 in
theorem challenge_no (p q m : Int) (w : World) (hp : isM p = true) (hq : isM q = true) (hm : isM m = false) :
    Calls Tryd.prog 46 #[.int .i64 p, .int .i64 q, .int .i64 m] w fun e w' => e = .returned (.tuple #[.int .i64 0, .iface 46 (.int .i64 1)]) ∧ Below w.heap.size w w' := by
  have HO := hide (show okAll [p, q, m] = false by rw [ok_three hp hq, hm])
  clear hp hq hm
  go_enter Tryd.func46, Tryd.ntmps46
  go_wp2_with (fail)
  refine (all_bad _ [p, q, m] 3 _ _ rfl (by omega) (Row.three (blk_new _ _)) HO.out).mono ?_
  rintro e w1 ⟨rfl, rfl⟩
  go_wp2
  go_ret2
  exact ⟨rfl, below_new _ _⟩

theorem info_seal : (Tryd.prog.info? 25).map (·.size) = some 2 := by kernel_rfl
/-- A seal out of its block. -/
theorem load_seal {w : World} {b : Nat} {c : Array Value} {fr : Nat × Nat} (h : w.heap[b]? = some (.cells c 25 fr)) (hs : c.size = 2) : (loadVar 25 ⟨b, 0, none⟩).run Tryd.prog w = .ok (.agg c) w :=
  run_loadVar_row w b _ _ c fr _ h Tryd.underlying25 rfl (by rw [info_seal, hs])
theorem results_seal {fn : Func} {p u : Tmp} (h : fn.results = #[.cell p 25, .tmp u]) (tmps : Array Value) (w : World) (b : Nat) (c : Array Value) (v : Value) (hp : tmps.getD p undef = .pointer (some ⟨b, 0, none⟩)) (hu : tmps.getD u undef = v)
    (hg : w.heap[b]? = some (.cells c 25)) (hs : c.size = 2) : (results fn tmps).run Tryd.prog w = .ok (.tuple #[.agg c, v]) w := by
  rw [results_cell_tmp h, hp, hu]
  simp [asAddr, load_seal hg hs, Result.andThen]

set_option maxHeartbeats 2000000 in
theorem sign_any (x k m : Int) (w : World) :
    Calls Tryd.prog 31 #[.int .i64 x, .int .i64 k, .int .i64 m] w fun e w' => e = .returned (.tuple #[.agg (sealC (sigP x k m) (sigA x k m)), errV 46 (sigC x k m)]) ∧ Below w.heap.size w w' := by
  have HB0 := hide (below_new w (.cells #[.int .i64 0, .int .i64 0] 25))
  have HG0 := hide (blk_new w (.cells #[.int .i64 0, .int .i64 0] 25))
  obtain ⟨r0, r1⟩ := seal_cells HG0.out
  obtain ⟨g0, g1⟩ := seal_free HG0.out
  cases hx : secB x with
  | false =>
    obtain ⟨e1, e2, e3⟩ := sig_no (k := k) (m := m) (Or.inl hx)
    rw [e1, e2, e3]
    clear e1 e2 e3
    go_enter Tryd.func31, Tryd.ntmps31
    go_wp2_with (go_at_call 45; refine (public_no _ _ (by assumption)).mono ?_; rintro e w' ⟨rfl, rfl⟩)
    refine bodyPost_ret (v := .tuple #[.agg (sealC 0 0), .iface 46 (.int .i64 1)]) ?_ rfl ⟨?_, ?_⟩
    · exact results_seal (p := 6) (u := 7) rfl _ _ w.heap.size _ _ rfl rfl HG0.out rfl
    · rfl
    · exact HB0.out
  | true =>
    cases hk : secB k with
    | false =>
      obtain ⟨e1, e2, e3⟩ := sig_no (x := x) (m := m) (Or.inr (Or.inl hk))
      rw [e1, e2, e3]
      clear e1 e2 e3
      go_enter Tryd.func31, Tryd.ntmps31
      go_wp2_with (go_at_call 45; (first | refine (public_no _ _ (by assumption)).mono ?_ | refine (public_ok _ _ (by assumption)).mono ?_); rintro e w' ⟨rfl, rfl⟩)
      refine bodyPost_ret (v := .tuple #[.agg (sealC 0 0), .iface 46 (.int .i64 1)]) ?_ rfl ⟨?_, ?_⟩
      · exact results_seal (p := 6) (u := 7) rfl _ _ w.heap.size _ _ rfl rfl HG0.out rfl
      · rfl
      · exact HB0.out
    | true =>
      have PX := hide (fun W => public_ok x W hx)
      have PK := hide (fun W => public_ok k W hk)
      have MX := hide (inB_isM (pwZ_in x))
      have MK := hide (inB_isM (pwZ_in k))
      cases hm : isM m with
      | false =>
        obtain ⟨e1, e2, e3⟩ := sig_no (x := x) (k := k) (Or.inr (Or.inr hm))
        rw [e1, e2, e3]
        have HM := hide hm
        clear e1 e2 e3 hx hk hm
        generalize pwZ 64 x = q at *
        generalize pwZ 64 k = p at *
        go_enter Tryd.func31, Tryd.ntmps31
        go_wp2_with (fail)
        refine (PX.out _).mono ?_
        rintro e w1 ⟨rfl, rfl⟩
        go_wp2_with (fail)
        refine (PK.out _).mono ?_
        rintro e w1 ⟨rfl, rfl⟩
        go_wp2_with (fail)
        refine (challenge_no p q m _ MK.out MX.out HM.out).mono ?_
        rintro e w1 ⟨rfl, hb1⟩
        have HB1 := hide (below_on HB0.out hb1)
        have HG1 := hide (blk_below HG0.out hb1)
        clear hb1 HB0 HG0 r0 r1 g0 g1
        obtain ⟨r0, r1⟩ := seal_cells HG1.out
        obtain ⟨g0, g1⟩ := seal_free HG1.out
        go_wp2
        rw [two_set HG1.out]
        refine bodyPost_ret (v := .tuple #[.agg (sealC 0 0), .iface 46 (.int .i64 1)]) ?_ rfl ⟨?_, ?_⟩
        · exact results_seal (p := 6) (u := 7) rfl _ _ w.heap.size _ _ rfl rfl (setRow_heap _ _ _ _ _ _ HG1.out) rfl
        · rfl
        · exact below_setRow HB1.out (by omega) _
      | true =>
        rw [sigC_ok hx hk hm, sigP_ok hx hk hm, sigA_ok hx hk hm]
        unfold sigH
        have HM := hide hm
        have xr := secB_iff.1 hx
        have kr := secB_iff.1 hk
        obtain ⟨x0, x1⟩ := xr
        obtain ⟨k0, k1⟩ := kr
        clear hx hk hm
        generalize pwZ 64 x = q at *
        generalize pwZ 64 k = p at *
        have CH := hide (fun W => challenge_ok p q m W MK.out MX.out HM.out)
        have c0 := chV_lo p q m
        have c1 := chV_hi p q m
        generalize chV p q m = c at *
        have hm0 : 0 ≤ c * x := Int.mul_nonneg c0 (by omega)
        have hm1 : c * x ≤ 257 * 257 := Int.mul_le_mul (by omega) (by omega) (by omega) (by omega)
        go_enter Tryd.func31, Tryd.ntmps31
        go_wp2_with (fail)
        refine (PX.out _).mono ?_
        rintro e w1 ⟨rfl, rfl⟩
        go_wp2_with (fail)
        refine (PK.out _).mono ?_
        rintro e w1 ⟨rfl, rfl⟩
        go_wp2_with (fail)
        refine (CH.out _).mono ?_
        rintro e w1 ⟨rfl, hb1⟩
        have HB1 := hide (below_on HB0.out hb1)
        have HG1 := hide (blk_below HG0.out hb1)
        clear hb1 HB0 HG0 r0 r1 g0 g1
        obtain ⟨r0, r1⟩ := seal_cells HG1.out
        obtain ⟨g0, g1⟩ := seal_free HG1.out
        go_wp2
        rw [two_set HG1.out]
        refine bodyPost_ret (v := .tuple #[.agg (sealC p ((k + c * x) % 257)), .nilIface]) ?_ rfl ⟨?_, ?_⟩
        · exact results_seal (p := 6) (u := 7) rfl _ _ w.heap.size _ _ rfl rfl (setRow_heap _ _ _ _ _ _ HG1.out) rfl
        · rfl
        · exact below_setRow HB1.out (by omega) _
end Go.Proofs.YtojdaifnljghkabDoor.Key
