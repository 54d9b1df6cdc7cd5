/-
  The walk of stairlaw4.KeeperNone: it returns true, and memory that was there stays as it was.
-/
import Derived.Test.YtidnjnhmkhekeaaDoorQKeeperLaw
import Derived.Test.YtidnjnhmkhekeaaDoorQCells
import Derived.Test.YtidnjnhmkhekeaaDoorQAs
namespace Go.Proofs.YtidnjnhmkhekeaaDoor.KeeperNone
open Go.ChangeShapes Go.WideShapes Go.ChangeAt Go.RowKit
open Go.Proofs.YtidnjnhmkhekeaaDoor.M Go.Proofs.YtidnjnhmkhekeaaDoor.Keeper
set_option linter.unusedVariables false

theorem quin {w : World} {b : Nat} {x0 x1 x2 x3 x4 : Value} {t : TypeId} {fr : Nat × Nat} (h : w.heap[b]? = some (.cells #[x0, x1, x2, x3, x4] t fr)) :
    w.cell? ⟨b, 0, none⟩ = some x0 ∧ w.cell? ⟨b, 1, none⟩ = some x1 ∧ w.cell? ⟨b, 2, none⟩ = some x2 ∧ w.cell? ⟨b, 3, none⟩ = some x3 ∧ w.cell? ⟨b, 4, none⟩ = some x4 := by
  refine ⟨?_, ?_, ?_, ?_, ?_⟩ <;> rw [cell_of_row w b _ _ t fr h] <;> rfl
theorem kpr_no {pub sec : Int} (h : ¬ kprE pub sec 5 [] = 0) : kprE pub sec 5 [] = 1 ∧ (pub < 1 ∨ 1542 < pub ∨ sec < 0 ∨ 1000002 < sec) := by
  cases hc : (inB pub && (isM sec && isM 5)) with
  | true => exact absurd ((kprE_rul hc).trans rfl) h
  | false =>
    refine ⟨kprE_no hc, ?_⟩
    apply Decidable.byContradiction
    intro hn
    have h1 : inB pub = true := inB_iff.2 (by omega)
    have h2 : isM sec = true := isM_iff.2 (by omega)
    rw [h1, h2] at hc
    cases hc

set_option maxHeartbeats 2000000 in
theorem walk {Kpr : World → Nat → Value → (Nat → Prop) → KS → Prop} (LK : Core Kpr) (GV : GiveLaw Kpr) (GN : GivenLaw Kpr) (pub sec q0 q1 q2 q3 q4 : Int) (w : World) (hg : As.Handle w) :
    Calls Tryd.prog 4 #[.int .i64 pub, .int .i64 sec, .agg #[.int .i64 q0, .int .i64 q1, .int .i64 q2, .int .i64 q3, .int .i64 q4]] w fun e w' => e = .returned (.bool true) ∧ Below w.heap.size w w' := by
  have HH := hide (fun (W : World) (h : Below w.heap.size w W) => hg.below h)
  have HB0 := hide (below_new w (.cells #[.int .i64 q0, .int .i64 q1, .int .i64 q2, .int .i64 q3, .int .i64 q4] 34))
  have HG0 := hide (blk_new w (.cells #[.int .i64 q0, .int .i64 q1, .int .i64 q2, .int .i64 q3, .int .i64 q4] 34))
  have HLK := hide LK
  have NO := hide (fun (W : World) (h : ¬ kprE pub sec 5 [] = 0) => LK.newNo pub sec 5 none [] 0 0 W rfl (by unfold maxLen; omega) (Nat.le_refl _) (RulesIn.nil _ _) h)
  have NW := hide (fun (W : World) (h : kprE pub sec 5 [] = 0) (hB : w.heap.size ≤ W.heap.size) => LK.new pub sec 5 none [] 0 0 W w.heap.size rfl (by unfold maxLen; omega) (Nat.le_refl _) (RulesIn.nil _ _) h hB)
  have HGV := hide GV
  have HGN := hide GN
  clear LK GV GN hg
  by_cases hE : kprE pub sec 5 [] = 0
  · have NW1 := hide (fun W => NW.out W hE)
    clear NO NW hE
    go_enter Tryd.func4, Tryd.ntmps4
    go_wp2_with (fail)
    refine (NW1.out _ HB0.out.size).mono ?_
    rintro e w1 ⟨p, S, rfl, hp, hk1, hf1, hb1⟩
    have HB1 := hide (below_on HB0.out hb1)
    have HG1 := hide (blk_below HG0.out hb1)
    have HK1 := hide hk1
    have hf : ∀ b, S b → w.heap.size + 1 ≤ b := fun b hb => by have := hf1 b hb; simpa using this
    have HF1 := hide hf
    clear hk1 hf1 hb1 HB0 HG0 NW1 hp hf
    obtain ⟨x0, x1, x2, x3, x4⟩ := quin HG1.out
    go_wp2_with (fail)
    have hno : (q0, q1, q2, q3, q4).1 ∉ (newK pub sec 5 (rulesL [])).xs := by simp [newK]
    have GV1 := hide (HGV.out p S _ (q0, q1, q2, q3, q4) none [] 0 0 w1 w.heap.size HK1.out rfl (by unfold maxLen; omega) (fun W _ => RRow.nil _ _) HB1.out.size)
    rw [givE_out hno, givV_out hno, givT_out hno] at GV1
    clear hno
    refine GV1.out.mono ?_
    rintro e w2 ⟨S2, rfl, hk2, ho2, hf2⟩
    have HB2 := hide (HB1.out.trans (ho2.below HB1.out.size (fun k hk => (HLK.out.has HK1.out k hk).1)))
    have HK2 := hide hk2
    clear hk2 ho2 hf2 HB1 HG1 HK1 GV1 x0 x1 x2 x3 x4 HF1
    go_wp2_with (fail)
    refine (As.same_err 5 5 _ (HH.out _ HB2.out)).mono ?_
    rintro e w3 ⟨rfl, hb3⟩
    have HB3 := hide (below_on HB2.out hb3)
    have HK3 := hide (HLK.out.below HK2.out hb3)
    clear hb3 HB2 HK2
    go_wp2_with (fail)
    refine (HGN.out p _ _ _ _ HK3.out).mono ?_
    rintro e w4 ⟨rfl, hb4⟩
    have HB4 := hide (below_on HB3.out hb4)
    clear hb4 HB3 HK3
    go_wp2
    go_ret
    exact ⟨rfl, HB4.out⟩
  · obtain ⟨h1, hr⟩ := kpr_no hE
    have NO1 := hide (fun W => NO.out W hE)
    rw [show rulesL [] = [] from rfl, h1, errV_one] at NO1
    clear NO NW hE h1
    by_cases c1 : pub < 1
    · clear hr
      go_enter Tryd.func4, Tryd.ntmps4
      go_wp2_with (fail)
      refine (NO1.out _).mono ?_
      rintro e w1 ⟨rfl, hb1⟩
      have HB1 := hide (below_on HB0.out hb1)
      clear hb1
      go_wp2
      go_ret
      exact ⟨rfl, HB1.out⟩
    · by_cases c2 : 1542 < pub
      · clear hr
        go_enter Tryd.func4, Tryd.ntmps4
        go_wp2_with (fail)
        refine (NO1.out _).mono ?_
        rintro e w1 ⟨rfl, hb1⟩
        have HB1 := hide (below_on HB0.out hb1)
        clear hb1
        go_wp2
        go_ret
        exact ⟨rfl, HB1.out⟩
      · by_cases c3 : sec < 0
        · clear hr
          go_enter Tryd.func4, Tryd.ntmps4
          go_wp2_with (fail)
          refine (NO1.out _).mono ?_
          rintro e w1 ⟨rfl, hb1⟩
          have HB1 := hide (below_on HB0.out hb1)
          clear hb1
          go_wp2
          go_ret
          exact ⟨rfl, HB1.out⟩
        · have c4 : 1000002 < sec := by omega
          clear hr
          go_enter Tryd.func4, Tryd.ntmps4
          go_wp2_with (fail)
          refine (NO1.out _).mono ?_
          rintro e w1 ⟨rfl, hb1⟩
          have HB1 := hide (below_on HB0.out hb1)
          clear hb1
          go_wp2
          go_ret
          exact ⟨rfl, HB1.out⟩
end Go.Proofs.YtidnjnhmkhekeaaDoor.KeeperNone
