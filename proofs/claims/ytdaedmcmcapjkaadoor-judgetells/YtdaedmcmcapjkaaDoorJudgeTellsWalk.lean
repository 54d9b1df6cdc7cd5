/-
  The walk of stairlaw2.JudgeTells: it returns true, and memory that was there stays as it was.
-/
import Derived.Test.YtdaedmcmcapjkaaDoorJudgeLaw
import Derived.Test.YtdaedmcmcapjkaaDoorJudgeRef
import Derived.Test.YtdaedmcmcapjkaaDoorAs
namespace Go.Proofs.YtdaedmcmcapjkaaDoor.JudgeTells
open Go.ChangeShapes Go.WideShapes Go.ChangeAt Go.RowKit
open Go.Proofs.YtdaedmcmcapjkaaDoor.M Go.Proofs.YtdaedmcmcapjkaaDoor.Judge
set_option linter.unusedVariables false

theorem five {w : World} {b : Nat} {x0 x1 x2 x3 x4 : Value} {t : TypeId} {fr : Nat × Nat} (h : w.heap[b]? = some (.cells #[x0, x1, x2, x3, x4] t fr)) :
    w.cell? ⟨b, 0, none⟩ = some x0 ∧ w.cell? ⟨b, 1, none⟩ = some x1 ∧ w.cell? ⟨b, 2, none⟩ = some x2 ∧ w.cell? ⟨b, 3, none⟩ = some x3 ∧ w.cell? ⟨b, 4, none⟩ = some x4 := by
  refine ⟨?_, ?_, ?_, ?_, ?_⟩ <;> rw [cell_of_row w b _ _ t fr h] <;> rfl
set_option maxHeartbeats 2000000 in
theorem walk (SL : SureLaw) (pub q0 q1 q2 q3 q4 nn : Int) (a : Option Addr) (es : List (Int × Int)) (n cap : Nat) (ar : Option Addr) (rl : List (Int × Value × List Int)) (nr cr : Nat) (w : World)
    (hn : n = es.length) (hm : n ≤ maxLen) (hr : RRow 2 evV w a es) (hnr : nr = rl.length) (hmr : nr ≤ maxLen) (hcr : nr ≤ cr) (hrr : RulesIn w ar rl) (hg : As.Handle w) :
    Calls Tryd.prog 3 #[.int .i64 pub, .agg #[.int .i64 q0, .int .i64 q1, .int .i64 q2, .int .i64 q3, .int .i64 q4], .int .i64 nn, .slice a n cap, .slice ar nr cr] w fun e w' => e = .returned (.bool true) ∧ Below w.heap.size w w' := by
  have HH := hide (fun (W : World) (h : Below w.heap.size w W) => hg.below h)
  have SR := hide (fun (W : World) (h : Below w.heap.size w W) => JudgeRef.sure_any pub (q0, q1, q2, q3, q4) nn a es n cap ar rl nr cr W hn hm (hr.below h) hnr hmr (hrr.below h))
  have SU := hide (fun (W : World) (h : Below w.heap.size w W) => SL pub (q0, q1, q2, q3, q4) nn a es n cap ar rl nr cr W hn hm (hr.below h) hnr hmr hcr (hrr.below h))
  unfold quoC at SR
  simp only [] at SR SU
  have HB0 := hide (below_new w (.cells #[.int .i64 q0, .int .i64 q1, .int .i64 q2, .int .i64 q3, .int .i64 q4] 25))
  have HG0 := hide (blk_new w (.cells #[.int .i64 q0, .int .i64 q1, .int .i64 q2, .int .i64 q3, .int .i64 q4] 25))
  clear SL hn hm hr hnr hmr hcr hrr hg
  generalize surE pub (q0, q1, q2, q3, q4) nn es (rulesL rl) = se at *
  obtain ⟨x0, x1, x2, x3, x4⟩ := five HG0.out
  go_enter Tryd.func3, Tryd.ntmps3
  go_wp2_with (fail)
  refine (SR.out _ HB0.out).mono ?_
  rintro e w1 ⟨rfl, hb1⟩
  have HB1 := hide (below_on HB0.out hb1)
  have HG1 := hide (blk_below HG0.out hb1)
  clear hb1 HB0 HG0 SR x0 x1 x2 x3 x4
  obtain ⟨x0, x1, x2, x3, x4⟩ := five HG1.out
  go_wp2_with (fail)
  refine (SU.out _ HB1.out).mono ?_
  rintro e w2 ⟨rfl, hb2⟩
  have HB2 := hide (below_on HB1.out hb2)
  clear hb2 HB1 HG1 SU x0 x1 x2 x3 x4
  go_wp2_with (fail)
  refine (As.same_is _ _ _ rfl (HH.out _ HB2.out)).mono ?_
  rintro e w3 ⟨rfl, hb3⟩
  have HB3 := hide (below_on HB2.out hb3)
  clear hb3 HB2
  go_wp2
  go_ret
  exact ⟨rfl, HB3.out⟩
end Go.Proofs.YtdaedmcmcapjkaaDoor.JudgeTells
