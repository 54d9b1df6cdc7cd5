/-
  Contract of what package stairref1 says on quotes (Quote): it returns what the plain mathematics says, and memory that was there stays as it was.
-/
import Derived.Test.YtidnjnhmkhekeaaDoorQKeyRef2
import Derived.Test.YtidnjnhmkhekeaaDoorQQuote1
import Derived.Deep.RegionHeld3
import Derived.Deep.DeepCutAuto
namespace Go.Proofs.YtidnjnhmkhekeaaDoor.Ref
open Go.ChangeShapes Go.WideShapes Go.ChangeAt Go.RowKit
open Go.Proofs.YtidnjnhmkhekeaaDoor.M
set_option linter.unusedVariables false

theorem row3 {w : World} {b : Nat} {p q m : Int} (h0 : w.cell? ⟨b, 0, none⟩ = some (.int .i64 p)) (h1 : w.cell? ⟨b, 1, none⟩ = some (.int .i64 q)) (h2 : w.cell? ⟨b, 2, none⟩ = some (.int .i64 m)) : Row w (some ⟨b, 0, none⟩) [p, q, m] := by
  refine Or.inr ⟨b, 0, rfl, fun k x hx => ?_⟩
  match k with
  | 0 => simp at hx; subst hx; simpa using h0
  | 1 => simp at hx; subst hx; simpa using h1
  | 2 => simp at hx; subst hx; simpa using h2
  | k + 3 => simp at hx
/-- A quote lies in its block, and all that was there is as it was. -/
def HeldQ (w0 : World) (b : Nat) (q0 q1 q2 q3 q4 : Int) (W : World) : Prop :=
  Below w0.heap.size w0 W ∧ W.heap[b]? = some (.cells #[.int .i64 q0, .int .i64 q1, .int .i64 q2, .int .i64 q3, .int .i64 q4] 34)
section
variable {w0 W W' : World} {b : Nat} {q0 q1 q2 q3 q4 : Int}
theorem heldQ_S (h : HeldQ w0 b q0 q1 q2 q3 q4 W) : W.cell? ⟨b, 0, none⟩ = some (.int .i64 q0) ∧ W.cell? ⟨b, 1, none⟩ = some (.int .i64 q1) ∧ W.cell? ⟨b, 2, none⟩ = some (.int .i64 q2) ∧ W.cell? ⟨b, 3, none⟩ = some (.int .i64 q3) ∧ W.cell? ⟨b, 4, none⟩ = some (.int .i64 q4) ∧ HeldQ w0 b q0 q1 q2 q3 q4 W := by
  obtain ⟨r0, r1, r2, r3, r4⟩ := quin_cells h.2
  exact ⟨r0, r1, r2, r3, r4, h⟩
theorem heldQ_drew (h : HeldQ w0 b q0 q1 q2 q3 q4 W) : HeldQ w0 b q0 q1 q2 q3 q4 W.drew := ⟨Below.drew h.1, h.2⟩
theorem heldQ_below (h : HeldQ w0 b q0 q1 q2 q3 q4 W) (hb : Below W.heap.size W W') : HeldQ w0 b q0 q1 q2 q3 q4 W' := ⟨below_on h.1 hb, blk_below h.2 hb⟩
theorem heldQ_alloc (h : HeldQ w0 b q0 q1 q2 q3 q4 W) (o : Obj) : HeldQ w0 b q0 q1 q2 q3 q4 (W.alloc o) := heldQ_below h (below_new _ _)
end

set_option maxHeartbeats 4000000 in
theorem quote_any (pub : Int) (q : Int × Int × Int × Int × Int) (nn : Int) (w : World) :
    Calls Tryd.prog 46 #[.int .i64 pub, .agg (quoC q), .int .i64 nn] w fun e w' => e = .returned (.int .i64 (chqE pub q nn)) ∧ Below w.heap.size w w' := by
  obtain ⟨q0, q1, q2, q3, q4⟩ := q
  unfold quoC
  have HS : Hid (HeldQ w w.heap.size q0 q1 q2 q3 q4 (w.alloc (.cells #[.int .i64 q0, .int .i64 q1, .int .i64 q2, .int .i64 q3, .int .i64 q4] 34))) := ⟨below_new _ _, blk_new _ _⟩
  obtain ⟨r0, r1, r2, r3, r4, _⟩ := heldQ_S HS.out
  cases hf : fitQ (q0, q1, q2, q3, q4) nn with
  | false =>
    rw [chqE_no hf]
    unfold fitQ at hf
    simp only [] at hf
    cases f0 : isM nn with
    | false =>
      clear hf
      go_enter Tryd.func46, Tryd.ntmps46
      go_wp2_with (go_at_call 17; refine (is_any _ _).mono ?_; rintro e w' ⟨rfl, rfl⟩)
      go_ret
      exact ⟨rfl, HS.out.1⟩
    | true =>
      cases f1 : isM q0 with
      | false =>
        clear hf
        go_enter Tryd.func46, Tryd.ntmps46
        go_wp2_with (go_at_call 17; refine (is_any _ _).mono ?_; rintro e w' ⟨rfl, rfl⟩)
        go_ret
        exact ⟨rfl, HS.out.1⟩
      | true =>
        cases f2 : isM q2 with
        | false =>
          clear hf
          go_enter Tryd.func46, Tryd.ntmps46
          go_wp2_with (go_at_call 17; refine (is_any _ _).mono ?_; rintro e w' ⟨rfl, rfl⟩)
          go_ret
          exact ⟨rfl, HS.out.1⟩
        | true =>
          rw [f0, f1, f2] at hf
          have hm := isMask_false.1 (show isMask q1 = false from hf)
          clear hf
          by_cases h0 : q1 < 0
          · clear hm
            go_enter Tryd.func46, Tryd.ntmps46
            go_wp2_with (go_at_call 17; refine (is_any _ _).mono ?_; rintro e w' ⟨rfl, rfl⟩)
            go_ret
            exact ⟨rfl, HS.out.1⟩
          · have h1 : 256 ≤ q1 := by omega
            clear hm
            go_enter Tryd.func46, Tryd.ntmps46
            go_wp2_with (go_at_call 17; refine (is_any _ _).mono ?_; rintro e w' ⟨rfl, rfl⟩)
            go_ret
            exact ⟨rfl, HS.out.1⟩
  | true =>
    obtain ⟨f0, f1, f2, f3⟩ := fitQ_iff.1 hf
    simp only [] at f0 f1 f2 f3
    have AL := hide (fun W b cap (h : Row W (some ⟨b, 0, none⟩) [q0, q1, q2]) => all_ok (some ⟨b, 0, none⟩) [q0, q1, q2] 3 cap W rfl (by decide) h (quo_ok f1 f3 f2))
    rw [show allFrom 0 [q0, q1, q2] = quoM q0 q1 q2 from rfl] at AL
    have RG := hide (fun W => right_any pub (quoM q0 q1 q2) q3 q4 W)
    unfold sealC at RG
    have RC := hide (rigQ_is pub (q0, q1, q2, q3, q4))
    have R1 := hide (fun h => chqE_rig (pub := pub) hf h)
    have R2 := hide (fun h h2 => chqE_ok (pub := pub) hf h h2)
    have R3 := hide (fun h h2 => chqE_else (pub := pub) hf h h2)
    rw [show rigQ pub (q0, q1, q2, q3, q4) = rigC pub (quoM q0 q1 q2) q3 q4 from rfl] at R1 R2 R3 RC
    simp only [] at R2 R3
    obtain ⟨m0, m1⟩ := isMask_iff.1 f3
    clear hf f3
    generalize rigC pub (quoM q0 q1 q2) q3 q4 = rc at *
    generalize quoM q0 q1 q2 = qm at *
    have hH : HeldQ w w.heap.size q0 q1 q2 q3 q4 (w.alloc (.cells #[.int .i64 q0, .int .i64 q1, .int .i64 q2, .int .i64 q3, .int .i64 q4] 34)) := HS.out
    clear HS
    go_enter Tryd.func46, Tryd.ntmps46
    go_upto_region 6 with (go_at_call 17; refine (is_any _ _).mono ?_; rintro e w' ⟨rfl, rfl⟩)
    go_cut [10] (fun s10 w' => s10 = .int .i64 rc ∧ HeldQ w w.heap.size q0 q1 q2 q3 q4 w')
    case first =>
      generalize w.alloc (.cells #[.int .i64 q0, .int .i64 q1, .int .i64 q2, .int .i64 q3, .int .i64 q4] 34) = wa at *
      go_region_held3 (fun w' => w'.cell? ⟨w.heap.size, 0, none⟩ = some (.int .i64 q0) ∧ w'.cell? ⟨w.heap.size, 1, none⟩ = some (.int .i64 q1) ∧ w'.cell? ⟨w.heap.size, 2, none⟩ = some (.int .i64 q2) ∧ w'.cell? ⟨w.heap.size, 3, none⟩ = some (.int .i64 q3) ∧ w'.cell? ⟨w.heap.size, 4, none⟩ = some (.int .i64 q4) ∧ HeldQ w w.heap.size q0 q1 q2 q3 q4 w')
        (exact heldQ_S (by repeat (first | assumption | apply heldQ_drew | apply heldQ_alloc)))
        (first
          | (go_at_call 78; refine (AL.out _ _ _ (row3 (by simp) (by simp) (by simp))).mono ?_; rintro e w6 ⟨rfl, rfl⟩)
          | (go_at_call 77; refine (RG.out _).mono ?_; rintro e w7 ⟨rfl, hb7⟩; have h7 : HeldQ w w.heap.size q0 q1 q2 q3 q4 w7 := heldQ_below (by repeat (first | assumption | apply heldQ_drew | apply heldQ_alloc)) hb7; clear hb7; obtain ⟨n0, n1, n2, n3, n4, _⟩ := heldQ_S h7))
      all_goals
        go_wp2
        go_meet
        exact ⟨rfl, by repeat (first | assumption | apply heldQ_drew | apply heldQ_alloc)⟩
    case rest =>
    obtain ⟨rfl, hk⟩ := hcut
    have HK := hide hk
    clear hk hH r0 r1 r2 r3 r4
    obtain ⟨g0, g1, g2, g3, g4, _⟩ := heldQ_S HK.out
    rcases RC.out with rfl | rfl | rfl
    · by_cases hn : q0 = nn
      · have E := hide (R2.out rfl hn)
        subst hn
        go_wp2
        go_ret
        exact ⟨by rw [E.out]; rfl, HK.out.1⟩
      · have E := hide (R3.out rfl hn)
        go_wp2
        go_ret
        exact ⟨by rw [E.out]; rfl, HK.out.1⟩
    · have E := hide (R1.out (by decide))
      go_wp2
      go_ret
      exact ⟨by rw [E.out]; rfl, HK.out.1⟩
    · have E := hide (R1.out (by decide))
      go_wp2
      go_ret
      exact ⟨by rw [E.out]; rfl, HK.out.1⟩
end Go.Proofs.YtidnjnhmkhekeaaDoor.Ref
