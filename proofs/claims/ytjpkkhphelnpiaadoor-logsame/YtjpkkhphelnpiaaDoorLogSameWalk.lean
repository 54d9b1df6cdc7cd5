/-
  The walk of stairlaw4.LogSame: it returns true, and memory that was there stays as it was.
-/
import Derived.Test.YtjpkkhphelnpiaaDoorLogOb
namespace Go.Proofs.YtjpkkhphelnpiaaDoor.M
section
variable {nm : ByteArray} {v : Int} {n : Nat}
/-- A new log, raised once, and again. -/
theorem sam_err (h : ¬ raiE (fun _ => 0) 0 nm v = 0) : ¬ lraE newL nm v = 0 ∧ lraB newL nm v = false ∧ ∀ n, lraT newL nm v n = newL := by
  have hb : raiB (fun _ => 0) 0 nm v = false := by
    cases hb : raiB (fun _ => 0) 0 nm v with
    | false => rfl
    | true => exact absurd (raiE_rise hb) h
  have hg : lraG newL nm v = false := by
    show (decide (newL.stop = false) && raiB (fun _ => 0) 0 nm v && decide (newL.rs.length < 30)) = false
    rw [hb, Bool.and_false, Bool.false_and]
  refine ⟨?_, by unfold lraB; rw [hg, Bool.false_and], fun n => by unfold lraT; rw [hg]; rfl⟩
  have e : lraE newL nm v = raiE (fun _ => 0) 0 nm v := by
    show (if (false : Bool) = true then (6 : Int) else if raiB (fun _ => 0) 0 nm v = true then _ else raiE (fun _ => 0) 0 nm v) = _
    rw [hb, if_neg Bool.false_ne_true, if_neg Bool.false_ne_true]
  rw [e]
  exact h
theorem sam_no (h : raiE (fun _ => 0) 0 nm v = 0) (hb : raiB (fun _ => 0) 0 nm v = false) : lraE newL nm v = 0 ∧ lraB newL nm v = false ∧ (∀ n, lraT newL nm v n = newL) ∧ ¬ 0 < v := by
  have hg : lraG newL nm v = false := by
    show (decide (newL.stop = false) && raiB (fun _ => 0) 0 nm v && decide (newL.rs.length < 30)) = false
    rw [hb, Bool.and_false, Bool.false_and]
  refine ⟨?_, by unfold lraB; rw [hg, Bool.false_and], fun n => by unfold lraT; rw [hg]; rfl, ?_⟩
  · show (if (false : Bool) = true then (6 : Int) else if raiB (fun _ => 0) 0 nm v = true then _ else raiE (fun _ => 0) 0 nm v) = 0
    rw [hb, if_neg Bool.false_ne_true, if_neg Bool.false_ne_true]
    exact h
  · intro hv
    have : ¬ raiB (fun _ => 0) 0 nm v = true := by rw [hb]; exact Bool.false_ne_true
    apply this
    unfold raiE at h
    by_cases h1 : nameB nm = true
    · rw [if_pos h1] at h
      by_cases h2 : 0 ≤ v ∧ v ≤ 1000
      · exact raiB_iff.2 ⟨h1, h2, hv, by omega⟩
      · rw [if_neg h2] at h; cases h
    · rw [if_neg h1] at h; cases h
theorem sam_yes (hb : raiB (fun _ => 0) 0 nm v = true) : lraE newL nm v = 0 ∧ lraB newL nm v = true ∧ 0 < v ∧
    ∀ n, (lraT newL nm v n).bytes = n ∧ lraE (lraT newL nm v n) nm v = 0 ∧ lraB (lraT newL nm v n) nm v = false ∧ ∀ m, lraT (lraT newL nm v n) nm v m = lraT newL nm v n := by
  obtain ⟨h1, h2, h3, h4⟩ := raiB_iff.1 hb
  have hg : lraG newL nm v = true := by
    show (decide (newL.stop = false) && raiB (fun _ => 0) 0 nm v && decide (newL.rs.length < 30)) = true
    rw [hb]
    rfl
  refine ⟨?_, ?_, h3, fun n => ?_⟩
  · show (if (false : Bool) = true then (6 : Int) else if raiB (fun _ => 0) 0 nm v = true then (if (0 : Nat) < 30 then (if (-1 : Int) = 0 then 6 else 0) else 4) else _) = 0
    rw [hb, if_neg Bool.false_ne_true, if_pos rfl, if_pos (by decide), if_neg (by decide)]
  · unfold lraB
    rw [hg]
    rfl
  · have e : lraT newL nm v n = ⟨[(nm, v, n)], 0, 0, -1, false⟩ := by
      unfold lraT
      rw [if_pos hg, if_neg (by decide)]
      rfl
    rw [e]
    have hf : (cntL [(nm, v, n)]).1 nm = v := by
      show raiF (fun _ => 0) 0 nm v nm = v
      rw [raiF_yes hb, updF_same]
    have hb2 : raiB (cntL [(nm, v, n)]).1 (cntL [(nm, v, n)]).2 nm v = false := by
      cases hq : raiB (cntL [(nm, v, n)]).1 (cntL [(nm, v, n)]).2 nm v with
      | false => rfl
      | true =>
        have := (raiB_iff.1 hq).2.2.1
        rw [hf] at this
        omega
    have hE2 : raiE (cntL [(nm, v, n)]).1 (cntL [(nm, v, n)]).2 nm v = 0 := by
      unfold raiE
      rw [if_pos h1, if_pos h2, if_pos (by rw [hf]; exact Int.le_refl _)]
    have hg2 : lraG ⟨[(nm, v, n)], 0, 0, -1, false⟩ nm v = false := by
      show (decide ((false : Bool) = false) && raiB (cntL [(nm, v, n)]).1 (cntL [(nm, v, n)]).2 nm v && decide (([(nm, v, n)] : List Rcd).length < 30)) = false
      rw [hb2, Bool.and_false, Bool.false_and]
    refine ⟨by simp [LS.bytes, lenL], ?_, by unfold lraB; rw [hg2, Bool.false_and], fun m => by unfold lraT; rw [hg2]; rfl⟩
    show (if (false : Bool) = true then (6 : Int) else if raiB (cntL [(nm, v, n)]).1 (cntL [(nm, v, n)]).2 nm v = true then _ else raiE (cntL [(nm, v, n)]).1 (cntL [(nm, v, n)]).2 nm v) = 0
    rw [hb2, if_neg Bool.false_ne_true, if_neg Bool.false_ne_true]
    exact hE2
end
end Go.Proofs.YtjpkkhphelnpiaaDoor.M
namespace Go.Proofs.YtjpkkhphelnpiaaDoor.LogSame
open Go.ChangeShapes Go.WideShapes Go.ChangeAt Go.RowKit
open Go.Proofs.YtjpkkhphelnpiaaDoor.M Go.Proofs.YtjpkkhphelnpiaaDoor.Log
set_option linter.unusedVariables false

theorem errV_no {T : TypeId} {k : Int} (h : ¬ k = 0) : errV T k = .iface T (.int .i64 k) := if_neg h

set_option maxRecDepth 20000 in
set_option maxHeartbeats 4000000 in
theorem walk {Lg : World → Nat → Value → (Nat → Prop) → LS → Prop} (LL : Core Lg) (RL : RaiseLaw Lg) (BL : BytesLaw Lg) (nm : ByteArray) (v : Int) (w : World) (hn : nm.size ≤ 140737488351232) (hh : Image.Has w) :
    Calls Tryd.prog 3 #[.string nm, .int .i64 v] w fun e w' => e = .returned (.bool true) ∧ Below w.heap.size w w' := by
  have HLL := hide LL
  have HS0 : Hid (M.Sep w w.heap.size [] w) := Sep.nil (Below.refl _ _) (Nat.le_refl _)
  have NW := hide (sep_new HLL.out HS0.out)
  have RA := hide (fun (W : World) (p : Value) (S : Nat → Prop) (j : LS) (h : M.Sep w w.heap.size [logI HLL.out w.heap.size p S j] W) => sep_rai RL h nm v hn (hh.below h.lo))
  have BY := hide (fun (W : World) (p : Value) (S : Nat → Prop) (j : LS) (h : M.Sep w w.heap.size [logI HLL.out w.heap.size p S j] W) => sep_byt BL h)
  clear LL RL BL hn hh
  go_enter Tryd.func3, Tryd.ntmps3
  go_wp2_with (fail)
  refine NW.out.mono ?_
  rintro e w1 ⟨p, S1, rfl, hd1⟩
  have R1 := hide (RA.out _ _ _ _ hd1)
  clear hd1 NW HS0
  by_cases hE : raiE (fun _ => 0) 0 nm v = 0
  · cases hb : raiB (fun _ => 0) 0 nm v with
    | true =>
      obtain ⟨g1, g2, g3, g4⟩ := sam_yes hb
      rw [g1, g2, errV_zero] at R1
      have HG4 := hide g4
      clear g1 g2 g4 hb hE
      go_wp2_with (fail)
      refine R1.out.mono ?_
      rintro e w2 ⟨S2, n, hn2, hn3, rfl, hd2⟩
      obtain ⟨k1, k2, k3, k4⟩ := HG4.out n
      have HK4 := hide k4
      have B1 := hide (BY.out _ _ _ _ hd2)
      rw [k1] at B1
      have R2 := hide (fun (W : World) (S : Nat → Prop) (h : M.Sep w w.heap.size [logI HLL.out w.heap.size p S (lraT newL nm v n)] W) => RA.out _ _ _ _ h)
      rw [k2, k3, errV_zero] at R2
      have B2 := hide (fun (W : World) (S : Nat → Prop) (h : M.Sep w w.heap.size [logI HLL.out w.heap.size p S (lraT newL nm v n)] W) => BY.out _ _ _ _ h)
      rw [k1] at B2
      have hnz : (2 : Int) ≤ n := by omega
      clear hd2 R1 HG4 RA BY k1 k2 k3 k4 hn2
      generalize lraT newL nm v n = j2 at *
      go_wp2_with (fail)
      refine B1.out.mono ?_
      rintro e w3 ⟨rfl, hd3⟩
      have R3 := hide (R2.out _ _ hd3)
      clear hd3 B1 R2
      go_wp2_with (fail)
      refine R3.out.mono ?_
      rintro e w4 ⟨S4, n4, _, _, rfl, hd4⟩
      rw [HK4.out] at hd4
      have B3 := hide (B2.out _ _ hd4)
      clear hd4 R3 B2 HK4
      go_wp2_with (fail)
      refine B3.out.mono ?_
      rintro e w5 ⟨rfl, hd5⟩
      have HS5 := hide hd5
      clear hd5 B3
      go_wp2
      go_ret
      exact ⟨rfl, HS5.out.lo⟩
    | false =>
      obtain ⟨g1, g2, g3, g4⟩ := sam_no hE hb
      have hv0 : decide (0 < v) = false := decide_eq_false g4
      clear g4
      rw [g1, g2, errV_zero] at R1
      have HG3 := hide g3
      have R2 := hide (fun (W : World) (S : Nat → Prop) (h : M.Sep w w.heap.size [logI HLL.out w.heap.size p S newL] W) => RA.out _ _ _ _ h)
      rw [g1, g2, errV_zero] at R2
      have B2 := hide (fun (W : World) (S : Nat → Prop) (h : M.Sep w w.heap.size [logI HLL.out w.heap.size p S newL] W) => BY.out _ _ _ _ h)
      rw [show newL.bytes = 0 from rfl] at B2
      clear g1 g2 g3 hb hE RA BY
      go_wp2_with (fail)
      refine R1.out.mono ?_
      rintro e w2 ⟨S2, n, _, _, rfl, hd2⟩
      rw [HG3.out] at hd2
      have B1 := hide (B2.out _ _ hd2)
      clear hd2 R1
      go_wp2_with (fail)
      refine B1.out.mono ?_
      rintro e w3 ⟨rfl, hd3⟩
      have R3 := hide (R2.out _ _ hd3)
      clear hd3 B1 R2
      go_wp2_with (fail)
      refine R3.out.mono ?_
      rintro e w4 ⟨S4, n4, _, _, rfl, hd4⟩
      rw [HG3.out] at hd4
      have B3 := hide (B2.out _ _ hd4)
      clear hd4 R3 B2 HG3
      go_wp2_with (fail)
      refine B3.out.mono ?_
      rintro e w5 ⟨rfl, hd5⟩
      have HS5 := hide hd5
      clear hd5 B3
      go_wp2
      go_ret
      exact ⟨rfl, HS5.out.lo⟩
  · obtain ⟨g1, g2, g3⟩ := sam_err hE
    rw [g2, errV_no g1] at R1
    have HG3 := hide g3
    have R2 := hide (fun (W : World) (S : Nat → Prop) (h : M.Sep w w.heap.size [logI HLL.out w.heap.size p S newL] W) => RA.out _ _ _ _ h)
    rw [g2, errV_no g1] at R2
    have B2 := hide (fun (W : World) (S : Nat → Prop) (h : M.Sep w w.heap.size [logI HLL.out w.heap.size p S newL] W) => BY.out _ _ _ _ h)
    rw [show newL.bytes = 0 from rfl] at B2
    clear g1 g2 g3 hE RA BY
    generalize lraE newL nm v = ee at *
    go_wp2_with (fail)
    refine R1.out.mono ?_
    rintro e w2 ⟨S2, n, _, _, rfl, hd2⟩
    rw [HG3.out] at hd2
    have B1 := hide (B2.out _ _ hd2)
    clear hd2 R1
    go_wp2_with (fail)
    refine B1.out.mono ?_
    rintro e w3 ⟨rfl, hd3⟩
    have R3 := hide (R2.out _ _ hd3)
    clear hd3 B1 R2
    go_wp2_with (fail)
    refine R3.out.mono ?_
    rintro e w4 ⟨S4, n4, _, _, rfl, hd4⟩
    rw [HG3.out] at hd4
    have B3 := hide (B2.out _ _ hd4)
    clear hd4 R3 B2 HG3
    go_wp2_with (fail)
    refine B3.out.mono ?_
    rintro e w5 ⟨rfl, hd5⟩
    have HS5 := hide hd5
    clear hd5 B3
    go_wp2
    go_ret
    exact ⟨rfl, HS5.out.lo⟩
end Go.Proofs.YtjpkkhphelnpiaaDoor.LogSame
