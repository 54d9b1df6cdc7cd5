/-
  Contracts of package quote's Make, Check and Tells over this translation: what each returns, and that memory that was there stays as it was.
-/
import Derived.Test.YtdaedmcmcapjkaaDoorQuoteMath
import Derived.Test.YtdaedmcmcapjkaaDoorCells
import Derived.Test.YtdaedmcmcapjkaaDoorBank2
import Derived.Test.YtdaedmcmcapjkaaDoorKey3
namespace Go.Proofs.YtdaedmcmcapjkaaDoor.M
/-- The cells of a quote. -/
def quoC (q : Int × Int × Int × Int × Int) : Array Value := #[.int .i64 q.1, .int .i64 q.2.1, .int .i64 q.2.2.1, .int .i64 q.2.2.2.1, .int .i64 q.2.2.2.2]
def quoZ : Array Value := #[.int .i64 0, .int .i64 0, .int .i64 0, .int .i64 0, .int .i64 0]
end Go.Proofs.YtdaedmcmcapjkaaDoor.M
namespace Go.Proofs.YtdaedmcmcapjkaaDoor.Quote
open Go.ChangeShapes Go.WideShapes Go.ChangeAt Go.RowKit
open Go.Proofs.YtdaedmcmcapjkaaDoor.M Go.Proofs.YtdaedmcmcapjkaaDoor.Measure
set_option linter.unusedVariables false

theorem info_quote : (Tryd.prog.info? 25).map (·.size) = some 5 := by kernel_rfl
theorem load_quote {w : World} {b : Nat} {c : Array Value} {fr : Nat × Nat} (h : w.heap[b]? = some (.cells c 25 fr)) (hs : c.size = 5) : (loadVar 25 ⟨b, 0, none⟩).run Tryd.prog w = .ok (.agg c) w :=
  run_loadVar_row w b _ _ c fr _ h Tryd.underlying25 rfl (by rw [info_quote, hs])
theorem results_quote {fn : Func} {p u : Tmp} (h : fn.results = #[.cell p 25, .tmp u]) (tmps : Array Value) (w : World) (b : Nat) (c : Array Value) (v : Value) (hp : tmps.getD p undef = .pointer (some ⟨b, 0, none⟩)) (hu : tmps.getD u undef = v)
    (hg : w.heap[b]? = some (.cells c 25)) (hs : c.size = 5) : (results fn tmps).run Tryd.prog w = .ok (.tuple #[.agg c, v]) w := by
  rw [results_cell_tmp h, hp, hu]
  simp [asAddr, load_quote hg hs, Result.andThen]
theorem blk_two {w : World} {o o' : Obj} : ((w.alloc o).alloc o').heap[w.heap.size + 1]? = some o' := by
  have := blk_new (w.alloc o) o'
  simpa using this

theorem quin_seal {w : World} {b : Nat} {a0 a1 a2 a3 a4 x y : Value} {t : TypeId} {fr : Nat × Nat} (hg : w.heap[b]? = some (.cells #[a0, a1, a2, a3, a4] t fr)) :
    (w.setCell ⟨b, 3, none⟩ x).setCell ⟨b, 4, none⟩ y = w.setRow b #[a0, a1, a2, x, y] := by
  rw [setCell_eq_setRow w b 3 _ _ _ x hg]
  have h1 := setRow_heap w b _ (#[a0, a1, a2, a3, a4].setIfInBounds 3 x) t fr hg
  rw [setCell_eq_setRow _ b 4 _ _ _ y h1, setRow_setRow]
  rfl
theorem eq_turn (a b : Int) : decide (a = b) = (b == a) := by
  by_cases h : a = b
  · rw [h]; simp
  · have h2 : ¬ b = a := fun e => h e.symm
    simp [h, h2]
/-- May a seal be of it? -/
def toldB (n m d : Int) : Bool := isMask m && (isM n && isM d)
theorem toldB_ok {n m d : Int} (h : toldB n m d = true) : isMask m = true ∧ isM n = true ∧ isM d = true := by
  unfold toldB at h; rwa [Bool.and_eq_true, Bool.and_eq_true] at h
theorem toldB_all {n m d : Int} (hm : isMask m = true) (h : toldB n m d = false) : okAll [n, m, d] = false := by
  unfold toldB at h
  rw [hm] at h
  simp only [Bool.true_and] at h
  simp only [okAll, List.all_cons, List.all_nil, Bool.and_true, mask_m hm, Bool.true_and]
  exact h

set_option maxHeartbeats 4000000 in
theorem told_ok (n m d p a : Int) (w : World) (h : toldB n m d = true) :
    Calls Tryd.prog 26 #[.agg #[.int .i64 n, .int .i64 m, .int .i64 d, .int .i64 p, .int .i64 a]] w fun e w' => e = .returned (.tuple #[.int .i64 (quoM n m d), .nilIface]) ∧ Below w.heap.size w w' := by
  obtain ⟨hm, hn, hd⟩ := toldB_ok h
  have HB0 := hide (below_new w (.cells #[.int .i64 n, .int .i64 m, .int .i64 d, .int .i64 p, .int .i64 a] 25))
  have HG0 := hide (blk_new w (.cells #[.int .i64 n, .int .i64 m, .int .i64 d, .int .i64 p, .int .i64 a] 25))
  have AL := hide (fun W b cap (h : Row W (some ⟨b, 0, none⟩) [n, m, d]) => all_ok (some ⟨b, 0, none⟩) [n, m, d] 3 cap W rfl (by decide) h (quo_ok hn hm hd))
  rw [show allFrom 0 [n, m, d] = quoM n m d from rfl] at AL
  have MK := hide (fun W => Bank.isMask_any m W)
  rw [hm] at MK
  obtain ⟨r0, r1, r2, r3, r4⟩ := quin_cells HG0.out
  clear hn hm hd h
  generalize quoM n m d = qm at *
  go_enter Tryd.func26, Tryd.ntmps26
  go_wp2_with (go_at_call 40; refine (MK.out _).mono ?_; rintro e w' ⟨rfl, rfl⟩)
  have HB1 := hide (below_on HB0.out (below_new _ (.cells #[.int .i64 n, .int .i64 m, .int .i64 d] 3)))
  have HW1 := hide (Row.three (blk_two (w := w) (o := .cells #[.int .i64 n, .int .i64 m, .int .i64 d, .int .i64 p, .int .i64 a] 25) (o' := .cells #[.int .i64 n, .int .i64 m, .int .i64 d] 3)))
  clear HB0 HG0 r0 r1 r2 r3 r4
  refine (AL.out _ _ _ HW1.out).mono ?_
  rintro e w2 ⟨rfl, hw⟩
  rw [hw]
  clear hw HW1 AL
  go_wp2
  go_ret2
  exact ⟨rfl, HB1.out⟩

set_option maxHeartbeats 4000000 in
theorem told_no (n m d p a : Int) (w : World) (h : toldB n m d = false) :
    Calls Tryd.prog 26 #[.agg #[.int .i64 n, .int .i64 m, .int .i64 d, .int .i64 p, .int .i64 a]] w fun e w' => e = .returned (.tuple #[.int .i64 0, .iface 46 (.int .i64 1)]) ∧ Below w.heap.size w w' := by
  have HB0 := hide (below_new w (.cells #[.int .i64 n, .int .i64 m, .int .i64 d, .int .i64 p, .int .i64 a] 25))
  have HG0 := hide (blk_new w (.cells #[.int .i64 n, .int .i64 m, .int .i64 d, .int .i64 p, .int .i64 a] 25))
  have MK := hide (fun W => Bank.isMask_any m W)
  obtain ⟨r0, r1, r2, r3, r4⟩ := quin_cells HG0.out
  cases hm : isMask m with
  | false =>
    rw [hm] at MK
    clear h hm
    go_enter Tryd.func26, Tryd.ntmps26
    go_wp2_with (go_at_call 40; refine (MK.out _).mono ?_; rintro e w' ⟨rfl, rfl⟩)
    go_ret2
    exact ⟨rfl, HB0.out⟩
  | true =>
    rw [hm] at MK
    have AL := hide (fun W b cap (hr : Row W (some ⟨b, 0, none⟩) [n, m, d]) => all_bad (some ⟨b, 0, none⟩) [n, m, d] 3 cap W rfl (by decide) hr (toldB_all hm h))
    clear h hm
    go_enter Tryd.func26, Tryd.ntmps26
    go_wp2_with (go_at_call 40; refine (MK.out _).mono ?_; rintro e w' ⟨rfl, rfl⟩)
    have HB1 := hide (below_on HB0.out (below_new _ (.cells #[.int .i64 n, .int .i64 m, .int .i64 d] 3)))
    have HW1 := hide (Row.three (blk_two (w := w) (o := .cells #[.int .i64 n, .int .i64 m, .int .i64 d, .int .i64 p, .int .i64 a] 25) (o' := .cells #[.int .i64 n, .int .i64 m, .int .i64 d] 3)))
    clear HB0 HG0 r0 r1 r2 r3 r4
    refine (AL.out _ _ _ HW1.out).mono ?_
    rintro e w2 ⟨rfl, hw⟩
    rw [hw]
    clear hw HW1 AL
    go_wp2
    go_ret2
    exact ⟨rfl, HB1.out⟩

set_option maxHeartbeats 2000000 in
theorem tells_any (q : Int × Int × Int × Int × Int) (xs : List Int) (c : Array Value) (w : World) (hc : c = bankC xs) (hl : xs.length = 8) :
    Calls Tryd.prog 31 #[.agg (quoC q), .agg c] w fun e w' => e = .returned (.tuple #[.bool (telB q xs), errV 46 (telE q xs)]) ∧ Below w.heap.size w w' := by
  obtain ⟨q0, q1, q2, q3, q4⟩ := q
  unfold quoC
  have HB0 := hide (below_on (below_new w (.cells #[.int .i64 q0, .int .i64 q1, .int .i64 q2, .int .i64 q3, .int .i64 q4] 25)) (below_new _ (.cells c 38)))
  have HG0 := hide (blk_keep (blk_new w (.cells #[.int .i64 q0, .int .i64 q1, .int .i64 q2, .int .i64 q3, .int .i64 q4] 25)) (.cells c 38))
  have HK0 := hide (blk_two (w := w) (o := .cells #[.int .i64 q0, .int .i64 q1, .int .i64 q2, .int .i64 q3, .int .i64 q4] 25) (o' := .cells c 38))
  have HS := hide (show c.size = 8 by rw [hc, bankC_size, hl])
  have DG := hide (fun W => Bank.digest_any xs c q1 W hc hl)
  obtain ⟨r0, r1, r2, r3, r4⟩ := quin_cells HG0.out
  clear hc hl
  cases hd : isM q2 with
  | false =>
    have e1 := telE_no (q := (q0, q1, q2, q3, q4)) (xs := xs) hd
    rw [telB_no (by rw [e1]; decide), e1]
    clear e1 DG
    go_enter Tryd.func31, Tryd.ntmps31
    go_wp2_with (go_at_call 25; refine (is_any _ _).mono ?_; rintro e w ⟨rfl, rfl⟩)
    go_ret2
    exact ⟨rfl, HB0.out⟩
  | true =>
    have E := telE_ok (q := (q0, q1, q2, q3, q4)) (xs := xs) hd
    simp only [] at E
    rcases digE_is xs q1 with hE | hE
    · have e1 := E.trans hE
      have V := telB_ok e1
      simp only [] at V
      rw [e1, V]
      rw [hE, errV_zero] at DG
      clear E hE e1 V
      generalize digV xs q1 = d at *
      go_enter Tryd.func31, Tryd.ntmps31
      go_wp2_with (first | (go_at_call 25; refine (is_any _ _).mono ?_; rintro e w ⟨rfl, rfl⟩) | ((with_reducible refine Bank.wpl_load 3 ?_ ?_ _ ?_ _ _ HK0.out HS.out ?_); rfl; rfl; rfl))
      refine (DG.out _).mono ?_
      rintro e w1 ⟨rfl, hb1⟩
      have HB1 := hide (below_on HB0.out hb1)
      obtain ⟨g0, g1, g2, g3, g4⟩ := quin_cells (blk_below HG0.out hb1)
      clear hb1 HB0 HG0 HK0 r0 r1 r2 r3 r4
      go_wp2
      go_ret2
      exact ⟨by rw [eq_turn]; rfl, HB1.out⟩
    · have e1 := E.trans hE
      rw [e1, telB_no (by rw [e1]; decide)]
      rw [hE, errV_one] at DG
      clear E hE e1
      go_enter Tryd.func31, Tryd.ntmps31
      go_wp2_with (first | (go_at_call 25; refine (is_any _ _).mono ?_; rintro e w ⟨rfl, rfl⟩) | ((with_reducible refine Bank.wpl_load 3 ?_ ?_ _ ?_ _ _ HK0.out HS.out ?_); rfl; rfl; rfl))
      refine (DG.out _).mono ?_
      rintro e w1 ⟨rfl, hb1⟩
      have HB1 := hide (below_on HB0.out hb1)
      clear hb1 HB0 HG0 HK0 r0 r1 r2 r3 r4
      go_wp2
      go_ret2
      exact ⟨rfl, HB1.out⟩
end Go.Proofs.YtdaedmcmcapjkaaDoor.Quote
