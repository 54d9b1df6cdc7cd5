/-
  Contracts of package quote's Make, Check and Tells over this translation: what each returns, and that memory that was there stays as it was.
-/
import Derived.Test.YtojdaifnljghkabGreatDoorQQuoteMath
import Derived.Test.YtojdaifnljghkabGreatDoorQCells
import Derived.Test.YtojdaifnljghkabGreatDoorPack2
import Derived.Test.YtojdaifnljghkabGreatDoorPack1
namespace Go.Proofs.YtojdaifnljghkabGreatDoor.M
/-- The cells of a quote. -/
def quoC (q : Int × Int × Int × Int × Int) : Array Value := #[.int .i64 q.1, .int .i64 q.2.1, .int .i64 q.2.2.1, .int .i64 q.2.2.2.1, .int .i64 q.2.2.2.2]
def quoZ : Array Value := #[.int .i64 0, .int .i64 0, .int .i64 0, .int .i64 0, .int .i64 0]
end Go.Proofs.YtojdaifnljghkabGreatDoor.M
namespace Go.Proofs.YtojdaifnljghkabGreatDoor.Quote
open Go.ChangeShapes Go.WideShapes Go.ChangeAt Go.RowKit
open Go.Proofs.YtojdaifnljghkabGreatDoor.M Go.Proofs.YtojdaifnljghkabGreatDoor.Measure
set_option linter.unusedVariables false

theorem info_quote : (Tryz.prog.info? 45).map (·.size) = some 5 := by kernel_rfl
theorem load_quote {w : World} {b : Nat} {c : Array Value} {fr : Nat × Nat} (h : w.heap[b]? = some (.cells c 45 fr)) (hs : c.size = 5) : (loadVar 45 ⟨b, 0, none⟩).run Tryz.prog w = .ok (.agg c) w :=
  run_loadVar_row w b _ _ c fr _ h Tryz.underlying45 rfl (by rw [info_quote, hs])
theorem results_quote {fn : Func} {p u : Tmp} (h : fn.results = #[.cell p 45, .tmp u]) (tmps : Array Value) (w : World) (b : Nat) (c : Array Value) (v : Value) (hp : tmps.getD p undef = .pointer (some ⟨b, 0, none⟩)) (hu : tmps.getD u undef = v)
    (hg : w.heap[b]? = some (.cells c 45)) (hs : c.size = 5) : (results fn tmps).run Tryz.prog w = .ok (.tuple #[.agg c, v]) w := by
  rw [results_cell_tmp h, hp, hu]
  simp [asAddr, load_quote hg hs, Result.andThen]
theorem blk_two {w : World} {o o' : Obj} : ((w.alloc o).alloc o').heap[w.heap.size + 1]? = some o' := by
  have := blk_new (w.alloc o) o'
  simpa using this

theorem quin_seal {w : World} {b : Nat} {a0 a1 a2 a3 a4 x y : Value} {t : TypeId} {fr : Nat × Nat} (hg : w.heap[b]? = some (.cells #[a0, a1, a2, a3, a4] t fr)) :
    (w.setCell ⟨b, 3, none⟩ x).setCell ⟨b, 4, none⟩ y = w.setRow b #[a0, a1, a2, x, y] := by
  rw [setCell_eq_setRow w b 3 _ _ _ x hg]
  have h1 := setRow_heap w b _ (#[a0, a1, a2, a3, a4].setIfInBounds 3 x) t fr hg
  rw [setCell_eq_setRow _ b 4 _ _ _ y h1, setRow_setRow]
  rfl
theorem eq_turn (a b : Int) : decide (a = b) = (b == a) := by
  by_cases h : a = b
  · rw [h]; simp
  · have h2 : ¬ b = a := fun e => h e.symm
    simp [h, h2]
/-- May a seal be of it? -/
def toldB (n m d : Int) : Bool := isMask m && (isM n && isM d)
theorem toldB_ok {n m d : Int} (h : toldB n m d = true) : isMask m = true ∧ isM n = true ∧ isM d = true := by
  unfold toldB at h; rwa [Bool.and_eq_true, Bool.and_eq_true] at h
theorem toldB_all {n m d : Int} (hm : isMask m = true) (h : toldB n m d = false) : okAll [n, m, d] = false := by
  unfold toldB at h
  rw [hm] at h
  simp only [Bool.true_and] at h
  simp only [okAll, List.all_cons, List.all_nil, Bool.and_true, mask_m hm, Bool.true_and]
  exact h

set_option maxHeartbeats 4000000 in
theorem told_ok (n m d p a : Int) (w : World) (h : toldB n m d = true) :
    Calls Tryz.prog 99 #[.agg #[.int .i64 n, .int .i64 m, .int .i64 d, .int .i64 p, .int .i64 a]] w fun e w' => e = .returned (.tuple #[.int .i64 (quoM n m d), .nilIface]) ∧ Below w.heap.size w w' := by
  obtain ⟨hm, hn, hd⟩ := toldB_ok h
  have HB0 := hide (below_new w (.cells #[.int .i64 n, .int .i64 m, .int .i64 d, .int .i64 p, .int .i64 a] 45))
  have HG0 := hide (blk_new w (.cells #[.int .i64 n, .int .i64 m, .int .i64 d, .int .i64 p, .int .i64 a] 45))
  have AL := hide (fun W b cap (h : Row W (some ⟨b, 0, none⟩) [n, m, d]) => all_ok (some ⟨b, 0, none⟩) [n, m, d] 3 cap W rfl (by decide) h (quo_ok hn hm hd))
  rw [show allFrom 0 [n, m, d] = quoM n m d from rfl] at AL
  have MK := hide (fun W => Bank.isMask_any m W)
  rw [hm] at MK
  obtain ⟨r0, r1, r2, r3, r4⟩ := quin_cells HG0.out
  clear hn hm hd h
  generalize quoM n m d = qm at *
  go_enter Tryz.func99, Tryz.ntmps99
  go_wp2_with (go_at_call 84; refine (MK.out _).mono ?_; rintro e w' ⟨rfl, rfl⟩)
  have HB1 := hide (below_on HB0.out (below_new _ (.cells #[.int .i64 n, .int .i64 m, .int .i64 d] 3)))
  have HW1 := hide (Row.three (blk_two (w := w) (o := .cells #[.int .i64 n, .int .i64 m, .int .i64 d, .int .i64 p, .int .i64 a] 45) (o' := .cells #[.int .i64 n, .int .i64 m, .int .i64 d] 3)))
  clear HB0 HG0 r0 r1 r2 r3 r4
  refine (AL.out _ _ _ HW1.out).mono ?_
  rintro e w2 ⟨rfl, hw⟩
  rw [hw]
  clear hw HW1 AL
  go_wp2
  go_ret2
  exact ⟨rfl, HB1.out⟩

set_option maxHeartbeats 4000000 in
theorem told_no (n m d p a : Int) (w : World) (h : toldB n m d = false) :
    Calls Tryz.prog 99 #[.agg #[.int .i64 n, .int .i64 m, .int .i64 d, .int .i64 p, .int .i64 a]] w fun e w' => e = .returned (.tuple #[.int .i64 0, .iface 96 (.int .i64 1)]) ∧ Below w.heap.size w w' := by
  have HB0 := hide (below_new w (.cells #[.int .i64 n, .int .i64 m, .int .i64 d, .int .i64 p, .int .i64 a] 45))
  have HG0 := hide (blk_new w (.cells #[.int .i64 n, .int .i64 m, .int .i64 d, .int .i64 p, .int .i64 a] 45))
  have MK := hide (fun W => Bank.isMask_any m W)
  obtain ⟨r0, r1, r2, r3, r4⟩ := quin_cells HG0.out
  cases hm : isMask m with
  | false =>
    rw [hm] at MK
    clear h hm
    go_enter Tryz.func99, Tryz.ntmps99
    go_wp2_with (go_at_call 84; refine (MK.out _).mono ?_; rintro e w' ⟨rfl, rfl⟩)
    go_ret2
    exact ⟨rfl, HB0.out⟩
  | true =>
    rw [hm] at MK
    have AL := hide (fun W b cap (hr : Row W (some ⟨b, 0, none⟩) [n, m, d]) => all_bad (some ⟨b, 0, none⟩) [n, m, d] 3 cap W rfl (by decide) hr (toldB_all hm h))
    clear h hm
    go_enter Tryz.func99, Tryz.ntmps99
    go_wp2_with (go_at_call 84; refine (MK.out _).mono ?_; rintro e w' ⟨rfl, rfl⟩)
    have HB1 := hide (below_on HB0.out (below_new _ (.cells #[.int .i64 n, .int .i64 m, .int .i64 d] 3)))
    have HW1 := hide (Row.three (blk_two (w := w) (o := .cells #[.int .i64 n, .int .i64 m, .int .i64 d, .int .i64 p, .int .i64 a] 45) (o' := .cells #[.int .i64 n, .int .i64 m, .int .i64 d] 3)))
    clear HB0 HG0 r0 r1 r2 r3 r4
    refine (AL.out _ _ _ HW1.out).mono ?_
    rintro e w2 ⟨rfl, hw⟩
    rw [hw]
    clear hw HW1 AL
    go_wp2
    go_ret2
    exact ⟨rfl, HB1.out⟩

set_option maxHeartbeats 4000000 in
theorem make_any (x k n m : Int) (xs : List Int) (c : Array Value) (w : World) (hc : c = bankC xs) (hl : xs.length = 8) :
    Calls Tryz.prog 58 #[.int .i64 x, .int .i64 k, .int .i64 n, .int .i64 m, .agg c] w fun e w' => e = .returned (.tuple #[.agg (quoC (quoV x k n m xs)), errV 96 (quoE x k n m xs)]) ∧ Below w.heap.size w w' := by
  have HB0 := hide (below_on (below_new w (.cells c 67)) (below_new _ (.cells #[.int .i64 0, .int .i64 0, .int .i64 0, .int .i64 0, .int .i64 0] 45)))
  have HK0 := hide (blk_keep (blk_new w (.cells c 67)) (.cells #[.int .i64 0, .int .i64 0, .int .i64 0, .int .i64 0, .int .i64 0] 45))
  have HG0 := hide (blk_two (w := w) (o := .cells c 67) (o' := .cells #[.int .i64 0, .int .i64 0, .int .i64 0, .int .i64 0, .int .i64 0] 45))
  have HS := hide (show c.size = 8 by rw [hc, bankC_size, hl])
  have DG := hide (fun W => Bank.digest_any xs c m W hc hl)
  clear hc hl
  rcases digE_is xs m with hE | hE
  · have hm := (digE_zero hE).2
    have hdm := digV_m xs m
    rw [hE, errV_zero] at DG
    go_enter Tryz.func58, Tryz.ntmps58
    go_wp2_with ((with_reducible refine Bank.wpl_load 9 ?_ ?_ _ ?_ _ _ HK0.out HS.out ?_); rfl; rfl; rfl)
    refine (DG.out _).mono ?_
    rintro e w1 ⟨rfl, hb1⟩
    have HB1 := hide (below_on (below_on HB0.out hb1) (below_new w1 (.cells #[.int .i64 n, .int .i64 m, .int .i64 (digV xs m), .int .i64 0, .int .i64 0] 45)))
    have HG1 := hide (blk_keep (blk_below HG0.out hb1) (.cells #[.int .i64 n, .int .i64 m, .int .i64 (digV xs m), .int .i64 0, .int .i64 0] 45))
    have HQ1 := hide (blk_new w1 (.cells #[.int .i64 n, .int .i64 m, .int .i64 (digV xs m), .int .i64 0, .int .i64 0] 45))
    have hz := blk_lt (blk_below HG0.out hb1)
    clear hb1 HB0 HG0 HK0 DG
    go_wp2_with (fail)
    cases hT : toldB n m (digV xs m) with
    | true =>
      have hn := (toldB_ok hT).2.1
      have TD := hide (fun W => told_ok n m (digV xs m) 0 0 W hT)
      have E := hide (quoE_go (x := x) (k := k) hn hE)
      have V0 := hide (fun (h : quoE x k n m xs = 0) => quoV_ok h)
      have V1 := hide (fun (h : ¬ quoE x k n m xs = 0) => quoV_no h)
      have SG := hide (fun W => Key.sign_any x k (quoM n m (digV xs m)) W)
      have SC := hide (show sigC x k (quoM n m (digV xs m)) = 0 ∨ sigC x k (quoM n m (digV xs m)) = 1 by unfold sigC; split <;> simp)
      unfold sealC at SG
      clear hE hm hdm hn hT
      generalize sigC x k (quoM n m (digV xs m)) = sc at *
      generalize sigP x k (quoM n m (digV xs m)) = p at *
      generalize sigA x k (quoM n m (digV xs m)) = a at *
      generalize quoM n m (digV xs m) = qm at *
      generalize digV xs m = d at *
      refine (TD.out _).mono ?_
      rintro e w2 ⟨rfl, hb2⟩
      have HB2 := hide (below_on HB1.out hb2)
      have HG2 := hide (blk_below HG1.out hb2)
      have HQ2 := hide (blk_below HQ1.out hb2)
      clear hb2 HB1 HG1 HQ1 TD
      go_wp2_with (fail)
      refine (SG.out _).mono ?_
      rintro e w3 ⟨rfl, hb3⟩
      have HB3 := hide (below_on HB2.out hb3)
      have HG3 := hide (blk_below HG2.out hb3)
      have HQ3 := hide (blk_below HQ2.out hb3)
      clear hb3 HB2 HG2 HQ2 SG
      have hlt := blk_lt HG3.out
      have hne : ¬ w1.heap.size = w.heap.size + 1 := by omega
      have hne' : ¬ w.heap.size + 1 = w1.heap.size := by omega
      obtain ⟨r0, r1, r2, r3, r4⟩ := quin_cells HG3.out
      obtain ⟨g0, g1, g2, g3, g4⟩ := quin_free HG3.out
      have HG4 := hide (fun (p a : Int) => show (w3.setRow w1.heap.size #[.int .i64 n, .int .i64 m, .int .i64 d, .int .i64 p, .int .i64 a]).heap[w.heap.size + 1]? = _ from (setRow_other _ _ _ _ hne').trans HG3.out)
      obtain ⟨s0, s1, s2, s3, s4⟩ := quin_cells HQ3.out
      obtain ⟨f0, f1, f2, f3, f4⟩ := quin_free HQ3.out
      rcases SC.out with rfl | rfl
      · have V := hide (V0.out E.out)
        clear V0 V1 SC
        rw [errV_zero]
        go_wp2
        rw [quin_seal HQ3.out, quin_set (HG4.out p a)]
        refine bodyPost_ret (v := .tuple #[.agg (quoC (n, m, d, p, a)), .nilIface]) ?_ rfl ⟨?_, ?_⟩
        · exact results_quote (p := 10) (u := 11) rfl _ _ (w.heap.size + 1) _ _ rfl rfl (setRow_heap _ _ _ _ _ _ (HG4.out p a)) rfl
        · rw [V.out, E.out]; rfl
        · exact below_setRow (below_setRow HB3.out (by omega) _) (by omega) _
      · have V := hide (V1.out (by rw [E.out]; decide))
        clear V0 V1 SC
        rw [errV_one]
        go_wp2
        rw [quin_seal HQ3.out, quin_set (HG4.out p a)]
        refine bodyPost_ret (v := .tuple #[.agg (quoC (0, 0, 0, 0, 0)), .iface 96 (.int .i64 1)]) ?_ rfl ⟨?_, ?_⟩
        · exact results_quote (p := 10) (u := 11) rfl _ _ (w.heap.size + 1) _ _ rfl rfl (setRow_heap _ _ _ _ _ _ (HG4.out p a)) rfl
        · rw [V.out, E.out]; rfl
        · exact below_setRow (below_setRow HB3.out (by omega) _) (by omega) _
    | false =>
      have hn : isM n = false := by
        cases h : isM n with
        | false => rfl
        | true => unfold toldB at hT; rw [hm, h, hdm] at hT; cases hT
      have e1 := quoE_no (x := x) (k := k) (m := m) (xs := xs) hn
      have TD := hide (fun W => told_no n m (digV xs m) 0 0 W hT)
      have V := hide (quoV_no (x := x) (k := k) (n := n) (m := m) (xs := xs) (by rw [e1]; decide))
      have E := hide e1
      clear e1 hE hm hdm hn hT
      generalize digV xs m = d at *
      refine (TD.out _).mono ?_
      rintro e w2 ⟨rfl, hb2⟩
      have HB2 := hide (below_on HB1.out hb2)
      have HG2 := hide (blk_below HG1.out hb2)
      clear hb2 HB1 HG1 HQ1 TD
      obtain ⟨r0, r1, r2, r3, r4⟩ := quin_cells HG2.out
      obtain ⟨g0, g1, g2, g3, g4⟩ := quin_free HG2.out
      go_wp2
      rw [quin_set HG2.out]
      refine bodyPost_ret (v := .tuple #[.agg (quoC (0, 0, 0, 0, 0)), .iface 96 (.int .i64 1)]) ?_ rfl ⟨?_, ?_⟩
      · exact results_quote (p := 10) (u := 11) rfl _ _ (w.heap.size + 1) _ _ rfl rfl (setRow_heap _ _ _ _ _ _ HG2.out) rfl
      · rw [V.out, E.out]; rfl
      · exact below_setRow HB2.out (by omega) _
  · have e1 : quoE x k n m xs = 1 := by
      cases hn : isM n with
      | false => exact quoE_no hn
      | true => exact quoE_dig hn (by rw [hE]; decide)
    rw [quoV_no (by rw [e1]; decide), e1]
    rw [hE, errV_one] at DG
    clear e1 hE
    go_enter Tryz.func58, Tryz.ntmps58
    go_wp2_with ((with_reducible refine Bank.wpl_load 9 ?_ ?_ _ ?_ _ _ HK0.out HS.out ?_); rfl; rfl; rfl)
    refine (DG.out _).mono ?_
    rintro e w1 ⟨rfl, hb1⟩
    have HB1 := hide (below_on HB0.out hb1)
    have HG1 := hide (blk_below HG0.out hb1)
    have hlt := blk_lt HG1.out
    clear hb1 HB0 HG0 HK0 DG
    obtain ⟨r0, r1, r2, r3, r4⟩ := quin_cells HG1.out
    obtain ⟨g0, g1, g2, g3, g4⟩ := quin_free HG1.out
    go_wp2
    rw [quin_set HG1.out]
    refine bodyPost_ret (v := .tuple #[.agg (quoC (0, 0, 0, 0, 0)), .iface 96 (.int .i64 1)]) ?_ rfl ⟨?_, ?_⟩
    · exact results_quote (p := 10) (u := 11) rfl _ _ (w.heap.size + 1) _ _ rfl rfl (setRow_heap _ _ _ _ _ _ HG1.out) rfl
    · rfl
    · exact below_setRow HB1.out (by omega) _

set_option maxHeartbeats 2000000 in
theorem tells_any (q : Int × Int × Int × Int × Int) (xs : List Int) (c : Array Value) (w : World) (hc : c = bankC xs) (hl : xs.length = 8) :
    Calls Tryz.prog 104 #[.agg (quoC q), .agg c] w fun e w' => e = .returned (.tuple #[.bool (telB q xs), errV 96 (telE q xs)]) ∧ Below w.heap.size w w' := by
  obtain ⟨q0, q1, q2, q3, q4⟩ := q
  unfold quoC
  have HB0 := hide (below_on (below_new w (.cells #[.int .i64 q0, .int .i64 q1, .int .i64 q2, .int .i64 q3, .int .i64 q4] 45)) (below_new _ (.cells c 67)))
  have HG0 := hide (blk_keep (blk_new w (.cells #[.int .i64 q0, .int .i64 q1, .int .i64 q2, .int .i64 q3, .int .i64 q4] 45)) (.cells c 67))
  have HK0 := hide (blk_two (w := w) (o := .cells #[.int .i64 q0, .int .i64 q1, .int .i64 q2, .int .i64 q3, .int .i64 q4] 45) (o' := .cells c 67))
  have HS := hide (show c.size = 8 by rw [hc, bankC_size, hl])
  have DG := hide (fun W => Bank.digest_any xs c q1 W hc hl)
  obtain ⟨r0, r1, r2, r3, r4⟩ := quin_cells HG0.out
  clear hc hl
  cases hd : isM q2 with
  | false =>
    have e1 := telE_no (q := (q0, q1, q2, q3, q4)) (xs := xs) hd
    rw [telB_no (by rw [e1]; decide), e1]
    clear e1 DG
    go_enter Tryz.func104, Tryz.ntmps104
    go_wp2_with (go_at_call 80; refine (is_any _ _).mono ?_; rintro e w ⟨rfl, rfl⟩)
    go_ret2
    exact ⟨rfl, HB0.out⟩
  | true =>
    have E := telE_ok (q := (q0, q1, q2, q3, q4)) (xs := xs) hd
    simp only [] at E
    rcases digE_is xs q1 with hE | hE
    · have e1 := E.trans hE
      have V := telB_ok e1
      simp only [] at V
      rw [e1, V]
      rw [hE, errV_zero] at DG
      clear E hE e1 V
      generalize digV xs q1 = d at *
      go_enter Tryz.func104, Tryz.ntmps104
      go_wp2_with (first | (go_at_call 80; refine (is_any _ _).mono ?_; rintro e w ⟨rfl, rfl⟩) | ((with_reducible refine Bank.wpl_load 3 ?_ ?_ _ ?_ _ _ HK0.out HS.out ?_); rfl; rfl; rfl))
      refine (DG.out _).mono ?_
      rintro e w1 ⟨rfl, hb1⟩
      have HB1 := hide (below_on HB0.out hb1)
      obtain ⟨g0, g1, g2, g3, g4⟩ := quin_cells (blk_below HG0.out hb1)
      clear hb1 HB0 HG0 HK0 r0 r1 r2 r3 r4
      go_wp2
      go_ret2
      exact ⟨by rw [eq_turn]; rfl, HB1.out⟩
    · have e1 := E.trans hE
      rw [e1, telB_no (by rw [e1]; decide)]
      rw [hE, errV_one] at DG
      clear E hE e1
      go_enter Tryz.func104, Tryz.ntmps104
      go_wp2_with (first | (go_at_call 80; refine (is_any _ _).mono ?_; rintro e w ⟨rfl, rfl⟩) | ((with_reducible refine Bank.wpl_load 3 ?_ ?_ _ ?_ _ _ HK0.out HS.out ?_); rfl; rfl; rfl))
      refine (DG.out _).mono ?_
      rintro e w1 ⟨rfl, hb1⟩
      have HB1 := hide (below_on HB0.out hb1)
      clear hb1 HB0 HG0 HK0 r0 r1 r2 r3 r4
      go_wp2
      go_ret2
      exact ⟨rfl, HB1.out⟩
end Go.Proofs.YtojdaifnljghkabGreatDoor.Quote
