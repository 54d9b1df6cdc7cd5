/-
  Contracts of package box's Close and Open over this translation: what each returns, and that memory that was there stays as it was.
-/
import Derived.Test.YtpgmhdfjhaofnaaGreatDoorPack2
import Derived.Test.YtpgmhdfjhaofnaaGreatDoorQCells
namespace Go.Proofs.YtpgmhdfjhaofnaaGreatDoor.Box
open Go.ChangeShapes Go.WideShapes Go.ChangeAt Go.RowKit
open Go.Proofs.YtpgmhdfjhaofnaaGreatDoor.M Go.Proofs.YtpgmhdfjhaofnaaGreatDoor.Measure
set_option linter.unusedVariables false

/-- The cells of a box. -/
def boxC (x : Int × Int × Int) : Array Value := #[.int .i64 x.1, .int .i64 x.2.1, .int .i64 x.2.2]
theorem info_box : (Tryz.prog.info? 83).map (·.size) = some 3 := by kernel_rfl
theorem load_box {w : World} {b : Nat} {c : Array Value} {fr : Nat × Nat} (h : w.heap[b]? = some (.cells c 83 fr)) (hs : c.size = 3) : (loadVar 83 ⟨b, 0, none⟩).run Tryz.prog w = .ok (.agg c) w :=
  run_loadVar_row w b _ _ c fr _ h Tryz.underlying83 rfl (by rw [info_box, hs])
theorem results_box {fn : Func} {p u : Tmp} (h : fn.results = #[.cell p 83, .tmp u]) (tmps : Array Value) (w : World) (b : Nat) (c : Array Value) (v : Value) (hp : tmps.getD p undef = .pointer (some ⟨b, 0, none⟩)) (hu : tmps.getD u undef = v)
    (hg : w.heap[b]? = some (.cells c 83)) (hs : c.size = 3) : (results fn tmps).run Tryz.prog w = .ok (.tuple #[.agg c, v]) w := by
  rw [results_cell_tmp h, hp, hu]
  simp [asAddr, load_box hg hs, Result.andThen]
theorem blk_at {w : World} {o o' : Obj} : ((w.alloc o).alloc o').heap[w.heap.size + 1]? = some o' := by
  have := blk_new (w.alloc o) o'
  simpa using this

set_option maxHeartbeats 2000000 in
theorem parts_any (xs : List Int) (c : Array Value) (m : Int) (w : World) (hc : c = bankC xs) (hl : xs.length = 8) :
    Calls Tryz.prog 81 #[.int .i64 m, .agg c] w fun e w' => e = .returned (.tuple #[.int .i64 (if digE xs m = 0 then lidV xs m else 0), .int .i64 (if digE xs m = 0 then padV xs m else 0), errV 96 (digE xs m)]) ∧ Below w.heap.size w w' := by
  have HB0 := hide (below_new w (.cells c 67))
  have HG0 := hide (blk_new w (.cells c 67))
  have HS := hide (show c.size = 8 by rw [hc, bankC_size, hl])
  have DG := hide (fun W => Bank.digest_any xs c m W hc hl)
  have hD := digV_m xs m
  have T1 := hide (fun W => two_ok (digV xs m) 1 W hD (by decide))
  have T2 := hide (fun W => two_ok (digV xs m) 2 W hD (by decide))
  clear hc hl hD
  rcases digE_is xs m with hE | hE
  · rw [if_pos hE, if_pos hE]
    rw [hE] at DG ⊢
    rw [errV_zero] at DG
    unfold lidV padV
    generalize stp 7919 (digV xs m) 1 = z1 at *
    generalize stp 7919 (digV xs m) 2 = z2 at *
    go_enter Tryz.func81, Tryz.ntmps81
    go_wp2_with ((with_reducible refine Bank.wpl_load 3 ?_ ?_ _ ?_ _ _ HG0.out HS.out ?_); rfl; rfl; rfl)
    refine (DG.out _).mono ?_
    rintro e w1 ⟨rfl, hb1⟩
    have HB1 := hide (below_on HB0.out hb1)
    clear hb1 HB0 HG0
    go_wp2_with (fail)
    refine (T1.out _).mono ?_
    rintro e w2 ⟨rfl, hw⟩
    rw [hw]
    clear hw
    go_wp2_with (fail)
    refine (T2.out _).mono ?_
    rintro e w3 ⟨rfl, hw⟩
    rw [hw]
    clear hw
    go_wp2
    go_ret3
    exact ⟨rfl, HB1.out⟩
  · rw [if_neg (by rw [hE]; decide), if_neg (by rw [hE]; decide)]
    rw [hE] at DG ⊢
    rw [errV_one] at DG
    go_enter Tryz.func81, Tryz.ntmps81
    go_wp2_with ((with_reducible refine Bank.wpl_load 3 ?_ ?_ _ ?_ _ _ HG0.out HS.out ?_); rfl; rfl; rfl)
    refine (DG.out _).mono ?_
    rintro e w1 ⟨rfl, hb1⟩
    have HB1 := hide (below_on HB0.out hb1)
    clear hb1 HB0 HG0
    go_wp2
    go_ret3
    exact ⟨rfl, HB1.out⟩

set_option maxHeartbeats 2000000 in
theorem close_any (s m : Int) (xs : List Int) (c : Array Value) (w : World) (hc : c = bankC xs) (hl : xs.length = 8) :
    Calls Tryz.prog 39 #[.int .i64 s, .int .i64 m, .agg c] w fun e w' => e = .returned (.tuple #[.agg (boxC (clsV s m xs)), errV 96 (clsE s m xs)]) ∧ Below w.heap.size w w' := by
  have HB0 := hide (below_on (below_new w (.cells c 67)) (below_new _ (.cells #[.int .i64 0, .int .i64 0, .int .i64 0] 83)))
  have HK0 := hide (blk_keep (blk_new w (.cells c 67)) (.cells #[.int .i64 0, .int .i64 0, .int .i64 0] 83))
  have HG0 := hide (blk_at (w := w) (o := .cells c 67) (o' := .cells #[.int .i64 0, .int .i64 0, .int .i64 0] 83))
  have HS := hide (show c.size = 8 by rw [hc, bankC_size, hl])
  have PT := hide (fun W => parts_any xs c m W hc hl)
  clear hc hl
  cases hs : isM s with
  | false =>
    have e1 := clsE_no (m := m) (xs := xs) hs
    rw [clsV_no (s := s) (m := m) (xs := xs) (by rw [e1]; decide), e1]
    obtain ⟨q0, q1, q2⟩ := tri_free HG0.out
    obtain ⟨r0, r1, r2⟩ := tri_cells HG0.out
    clear e1 PT
    go_enter Tryz.func39, Tryz.ntmps39
    go_wp2_with (go_at_call 80; refine (is_any _ _).mono ?_; rintro e w ⟨rfl, rfl⟩)
    refine bodyPost_ret (v := .tuple #[.agg (boxC (0, 0, 0)), .iface 96 (.int .i64 1)]) ?_ rfl ⟨?_, ?_⟩
    · exact results_box (p := 6) (u := 7) rfl _ _ (w.heap.size + 1) _ _ rfl rfl HG0.out rfl
    · rfl
    · exact HB0.out
  | true =>
    have E := hide (clsE_ok (m := m) (xs := xs) hs)
    have sr := isM_iff.1 hs
    obtain ⟨s0, s1⟩ := sr
    rcases digE_is xs m with hE | hE
    · have V := hide (clsV_ok (E.out.trans hE))
      have pr := padV_r xs m
      obtain ⟨p0, p1⟩ := pr
      rw [if_pos hE, if_pos hE, hE, errV_zero] at PT
      have E0 := hide (E.out.trans hE)
      clear E hE
      generalize lidV xs m = l at *
      generalize padV xs m = p at *
      go_enter Tryz.func39, Tryz.ntmps39
      go_wp2_with (first | (go_at_call 80; refine (is_any _ _).mono ?_; rintro e w ⟨rfl, rfl⟩) | ((with_reducible refine Bank.wpl_load 5 ?_ ?_ _ ?_ _ _ HK0.out HS.out ?_); rfl; rfl; rfl))
      refine (PT.out _).mono ?_
      rintro e w1 ⟨rfl, hb1⟩
      have HB1 := hide (below_on HB0.out hb1)
      have HG1 := hide (blk_below HG0.out hb1)
      have hlt := blk_lt (blk_below HG0.out hb1)
      obtain ⟨r0, r1, r2⟩ := tri_cells (blk_below HG0.out hb1)
      obtain ⟨g0, g1, g2⟩ := tri_free (blk_below HG0.out hb1)
      clear hb1 HB0 HG0 HK0
      go_wp2
      rw [tri_set HG1.out]
      refine bodyPost_ret (v := .tuple #[.agg (boxC (m, l, (s + p) % 1000003)), .nilIface]) ?_ rfl ⟨?_, ?_⟩
      · exact results_box (p := 6) (u := 7) rfl _ _ (w.heap.size + 1) _ _ rfl rfl (setRow_heap _ _ _ _ _ _ HG1.out) rfl
      · rw [V.out, E0.out]; rfl
      · exact below_setRow HB1.out (by omega) _
    · have E1 := hide (E.out.trans hE)
      have V := hide (clsV_no (s := s) (m := m) (xs := xs) (by rw [E1.out]; decide))
      rw [if_neg (by rw [hE]; decide), if_neg (by rw [hE]; decide), hE, errV_one] at PT
      clear E hE
      go_enter Tryz.func39, Tryz.ntmps39
      go_wp2_with (first | (go_at_call 80; refine (is_any _ _).mono ?_; rintro e w ⟨rfl, rfl⟩) | ((with_reducible refine Bank.wpl_load 5 ?_ ?_ _ ?_ _ _ HK0.out HS.out ?_); rfl; rfl; rfl))
      refine (PT.out _).mono ?_
      rintro e w1 ⟨rfl, hb1⟩
      have HB1 := hide (below_on HB0.out hb1)
      have HG1 := hide (blk_below HG0.out hb1)
      have hlt := blk_lt (blk_below HG0.out hb1)
      obtain ⟨r0, r1, r2⟩ := tri_cells (blk_below HG0.out hb1)
      obtain ⟨g0, g1, g2⟩ := tri_free (blk_below HG0.out hb1)
      clear hb1 HB0 HG0 HK0
      go_wp2
      rw [tri_set HG1.out]
      refine bodyPost_ret (v := .tuple #[.agg (boxC (0, 0, 0)), .iface 96 (.int .i64 1)]) ?_ rfl ⟨?_, ?_⟩
      · exact results_box (p := 6) (u := 7) rfl _ _ (w.heap.size + 1) _ _ rfl rfl (setRow_heap _ _ _ _ _ _ HG1.out) rfl
      · rw [V.out, E1.out]; rfl
      · exact below_setRow HB1.out (by omega) _

set_option maxHeartbeats 2000000 in
theorem open_form (x0 x1 x2 : Int) (xs : List Int) (c : Array Value) (w : World) (h : both x1 x2 = false) :
    Calls Tryz.prog 41 #[.agg #[.int .i64 x0, .int .i64 x1, .int .i64 x2], .agg c] w fun e w' => e = .returned (.tuple #[.int .i64 0, .iface 96 (.int .i64 1)]) ∧ Below w.heap.size w w' := by
  have HB0 := hide (below_on (below_new w (.cells #[.int .i64 x0, .int .i64 x1, .int .i64 x2] 83)) (below_new _ (.cells c 67)))
  obtain ⟨r0, r1, r2⟩ := tri_cells (blk_keep (blk_new w (.cells #[.int .i64 x0, .int .i64 x1, .int .i64 x2] 83)) (.cells c 67))
  cases h1 : isM x1 with
  | false =>
    clear h
    go_enter Tryz.func41, Tryz.ntmps41
    go_wp2_with (go_at_call 80; refine (is_any _ _).mono ?_; rintro e w ⟨rfl, rfl⟩)
    go_ret2
    exact ⟨rfl, HB0.out⟩
  | true =>
    have h2 : isM x2 = false := by rw [both_left h1] at h; exact h
    clear h
    go_enter Tryz.func41, Tryz.ntmps41
    go_wp2_with (go_at_call 80; refine (is_any _ _).mono ?_; rintro e w ⟨rfl, rfl⟩)
    go_ret2
    exact ⟨rfl, HB0.out⟩

set_option maxHeartbeats 2000000 in
theorem open_any (x : Int × Int × Int) (xs : List Int) (c : Array Value) (w : World) (hc : c = bankC xs) (hl : xs.length = 8) :
    Calls Tryz.prog 41 #[.agg (boxC x), .agg c] w fun e w' => e = .returned (.tuple #[.int .i64 (opnV x xs), errV 96 (opnE x xs)]) ∧ Below w.heap.size w w' := by
  obtain ⟨x0, x1, x2⟩ := x
  unfold boxC
  cases hf : both x1 x2 with
  | false =>
    have e1 := opnE_form (x := (x0, x1, x2)) (xs := xs) hf
    rw [opnV_no (by rw [e1]; decide), e1, errV_one]
    exact open_form x0 x1 x2 xs c w hf
  | true =>
    have HB0 := hide (below_on (below_new w (.cells #[.int .i64 x0, .int .i64 x1, .int .i64 x2] 83)) (below_new _ (.cells c 67)))
    have HG0 := hide (blk_keep (blk_new w (.cells #[.int .i64 x0, .int .i64 x1, .int .i64 x2] 83)) (.cells c 67))
    have HK0 := hide (blk_at (w := w) (o := .cells #[.int .i64 x0, .int .i64 x1, .int .i64 x2] 83) (o' := .cells c 67))
    have HS := hide (show c.size = 8 by rw [hc, bankC_size, hl])
    have PT := hide (fun W => parts_any xs c x0 W hc hl)
    obtain ⟨f1, f2⟩ := both_iff.1 hf
    obtain ⟨r0, r1, r2⟩ := tri_cells HG0.out
    clear hc hl
    rcases digE_is xs x0 with hE | hE
    · have i2 := isM_iff.1 f2
      obtain ⟨i20, i21⟩ := i2
      have pr := padV_r xs x0
      obtain ⟨p0, p1⟩ := pr
      rw [if_pos hE, if_pos hE, hE, errV_zero] at PT
      have HV := hide (fun h => opnV_ok (x := (x0, x1, x2)) (xs := xs) h)
      have HN := hide (fun h => opnV_no (x := (x0, x1, x2)) (xs := xs) h)
      simp only [] at HV
      by_cases hL : lidV xs x0 = x1
      · have E := hide (opnE_ok (x := (x0, x1, x2)) (xs := xs) hf hE hL)
        have V := hide (HV.out E.out)
        rw [hL] at PT
        clear hL hE HV HN hf
        generalize padV xs x0 = p at *
        go_enter Tryz.func41, Tryz.ntmps41
        go_wp2_with (first | (go_at_call 80; refine (is_any _ _).mono ?_; rintro e w ⟨rfl, rfl⟩) | ((with_reducible refine Bank.wpl_load 3 ?_ ?_ _ ?_ _ _ HK0.out HS.out ?_); rfl; rfl; rfl))
        refine (PT.out _).mono ?_
        rintro e w1 ⟨rfl, hb1⟩
        have HB1 := hide (below_on HB0.out hb1)
        obtain ⟨g0, g1, g2⟩ := tri_cells (blk_below HG0.out hb1)
        clear hb1 HB0 HG0 HK0 r0 r1 r2
        go_wp2
        go_ret2
        exact ⟨by rw [V.out, E.out]; rfl, HB1.out⟩
      · have E := hide (opnE_lid (x := (x0, x1, x2)) (xs := xs) hf hE hL)
        have V := hide (HN.out (by rw [E.out]; decide))
        clear hE HV HN hf
        generalize padV xs x0 = p at *
        generalize lidV xs x0 = l at *
        go_enter Tryz.func41, Tryz.ntmps41
        go_wp2_with (first | (go_at_call 80; refine (is_any _ _).mono ?_; rintro e w ⟨rfl, rfl⟩) | ((with_reducible refine Bank.wpl_load 3 ?_ ?_ _ ?_ _ _ HK0.out HS.out ?_); rfl; rfl; rfl))
        refine (PT.out _).mono ?_
        rintro e w1 ⟨rfl, hb1⟩
        have HB1 := hide (below_on HB0.out hb1)
        obtain ⟨g0, g1, g2⟩ := tri_cells (blk_below HG0.out hb1)
        clear hb1 HB0 HG0 HK0 r0 r1 r2
        go_wp2
        go_ret2
        exact ⟨by rw [V.out, E.out]; rfl, HB1.out⟩
    · have E := hide (opnE_dig (x := (x0, x1, x2)) (xs := xs) hf (by rw [hE]; decide))
      have V := hide (opnV_no (x := (x0, x1, x2)) (xs := xs) (by rw [E.out]; decide))
      rw [if_neg (by rw [hE]; decide), if_neg (by rw [hE]; decide), hE, errV_one] at PT
      clear hE hf
      go_enter Tryz.func41, Tryz.ntmps41
      go_wp2_with (first | (go_at_call 80; refine (is_any _ _).mono ?_; rintro e w ⟨rfl, rfl⟩) | ((with_reducible refine Bank.wpl_load 3 ?_ ?_ _ ?_ _ _ HK0.out HS.out ?_); rfl; rfl; rfl))
      refine (PT.out _).mono ?_
      rintro e w1 ⟨rfl, hb1⟩
      have HB1 := hide (below_on HB0.out hb1)
      clear hb1 HB0 HG0 HK0 r0 r1 r2
      go_wp2
      go_ret2
      exact ⟨by rw [V.out, E.out]; rfl, HB1.out⟩
end Go.Proofs.YtpgmhdfjhaofnaaGreatDoor.Box
