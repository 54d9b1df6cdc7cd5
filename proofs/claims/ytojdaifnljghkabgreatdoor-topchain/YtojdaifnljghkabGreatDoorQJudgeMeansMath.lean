/-
  Plain mathematics on what is sure: where events come to a bank, its quote is sure just if the mask asks for all that the rules do, and the bank fits.
-/
import Derived.Test.YtojdaifnljghkabGreatDoorQJudgeMath
namespace Go.Proofs.YtojdaifnljghkabGreatDoor.M
/-- The mask of rules that are right, register by register. -/
theorem maskV_bit {rl : List (Int × List Int)} (h : rulesE rl = 0) : (0 ≤ maskV rl ∧ maskV rl ≤ 255) ∧ ∀ k : Nat, k < 8 → bit (maskV rl) k = rl.any fun c => decide (c.1 = (k : Int)) := by
  obtain ⟨_, h2⟩ := rulesE_zero h
  obtain ⟨r1, r2⟩ := rules_regs rl [] h2
  obtain ⟨m1, m2⟩ := mask_bits rl 0 (by omega) (by omega) (fun c hc => ⟨(r1 c hc).1, bit_zero _⟩) r2
  refine ⟨⟨m1.1, by have := m1.2; show maskF 0 rl ≤ 255; omega⟩, fun k hk => ?_⟩
  show bit (maskF 0 rl) k = _
  rw [m2 k hk, bit_zero, Bool.or_false]
/-- Of the first registers: what the rules ask for, the mask asks for. -/
def allB (m am : Int) (k : Nat) : Bool := (List.range k).all fun i => !bit am i || bit m i
theorem allB_zero (m am : Int) : allB m am 0 = true := rfl
theorem allB_succ (m am : Int) (k : Nat) : allB m am (k + 1) = (allB m am k && (!bit am k || bit m k)) := by
  unfold allB
  rw [List.range_succ, List.all_append]
  simp
theorem hasA_all {m : Int} {rl : List (Int × List Int)} (h : rulesE rl = 0) : hasA m rl = allB m (maskV rl) 8 := by
  obtain ⟨_, hb⟩ := maskV_bit h
  obtain ⟨r1, _⟩ := rules_regs rl [] (rulesE_zero h).2
  rw [Bool.eq_iff_iff]
  unfold hasA allB
  rw [List.all_eq_true, List.all_eq_true]
  constructor
  · intro hh i hi
    have hi8 : i < 8 := List.mem_range.1 hi
    rw [hb i hi8]
    cases ha : rl.any (fun c => decide (c.1 = (i : Int))) with
    | false => rfl
    | true =>
      obtain ⟨c, hc, he⟩ := List.any_eq_true.1 ha
      have e := of_decide_eq_true he
      have := hh c hc
      rw [e, Int.toNat_natCast] at this
      rw [this]
      rfl
  · intro hh c hc
    have hr := isReg_iff.1 (r1 c hc).1
    have h1 := hh c.1.toNat (List.mem_range.2 (by omega))
    rw [hb c.1.toNat (by omega)] at h1
    have ha : rl.any (fun d => decide (d.1 = ((c.1.toNat : Nat) : Int))) = true := List.any_eq_true.2 ⟨c, hc, decide_eq_true (by omega)⟩
    rw [ha] at h1
    simpa using h1
/-- The quote that was made of the bank that the events come to. -/
theorem sur_own {x k n m : Int} {es : List (Int × Int)} {rl : List (Int × List Int)} (hq : quoE x k n m (repV es) = 0) (he : evE es = 0) (hr : rulesE rl = 0) :
    (surE (pwZ 64 x) (quoV x k n m (repV es)) n es rl = 0) ↔ (allB m (maskV rl) 8 && fitsB rl (repV es)) = true := by
  have hc := chq_own hq
  have e1 : (quoV x k n m (repV es)).2.1 = m := by rw [quoV_ok hq]
  have e2 : (quoV x k n m (repV es)).2.2.1 = digV (repV es) m := by rw [quoV_ok hq]
  rw [Bool.and_eq_true, ← hasA_all hr]
  constructor
  · intro h
    obtain ⟨_, _, _, _, h5, h6⟩ := sur_zero h
    rw [e1] at h5
    exact ⟨h5, h6⟩
  · rintro ⟨h5, h6⟩
    exact sur_ok hc he hr (by rw [e1, e2]) (by rw [e1]; exact h5) h6
end Go.Proofs.YtojdaifnljghkabGreatDoor.M
