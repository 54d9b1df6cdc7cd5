/-
  Plain mathematics on what is sure: what a quote, with its events, by some rules, is refused for; a quote that nobody sealed is never sure.
-/
import Derived.Test.YtojdaifnljghkabGreatDoorQQuoteMath
import Derived.Test.YtojdaifnljghkabGreatDoorQRuleMath
import Derived.Test.YtojdaifnljghkabGreatDoorPack2
namespace Go.Proofs.YtojdaifnljghkabGreatDoor.M
/-- Does a mask ask for all registers of some rules? -/
def hasA (m : Int) (rl : List (Int × List Int)) : Bool := rl.all fun c => bit m c.1.toNat
def surE (pub : Int) (q : Int × Int × Int × Int × Int) (nn : Int) (es : List (Int × Int)) (rl : List (Int × List Int)) : Int :=
  if chqE pub q nn = 0 then (if evE es = 0 then (if rulesE rl = 0 then (if digV (repV es) q.2.1 = q.2.2.1 then (if hasA q.2.1 rl = true then (if fitsB rl (repV es) = true then 0 else 6) else 5) else 3) else rulesE rl) else evE es) else chqE pub q nn
section
variable {pub nn : Int} {q : Int × Int × Int × Int × Int} {es : List (Int × Int)} {rl : List (Int × List Int)}
theorem sur_quo (h : ¬ chqE pub q nn = 0) : surE pub q nn es rl = chqE pub q nn := if_neg h
theorem sur_ev (h : chqE pub q nn = 0) (h2 : ¬ evE es = 0) : surE pub q nn es rl = evE es := by unfold surE; rw [if_pos h, if_neg h2]
theorem sur_rul (h : chqE pub q nn = 0) (h2 : evE es = 0) (h3 : ¬ rulesE rl = 0) : surE pub q nn es rl = rulesE rl := by unfold surE; rw [if_pos h, if_pos h2, if_neg h3]
theorem sur_dig (h : chqE pub q nn = 0) (h2 : evE es = 0) (h3 : rulesE rl = 0) (h4 : ¬ digV (repV es) q.2.1 = q.2.2.1) : surE pub q nn es rl = 3 := by unfold surE; rw [if_pos h, if_pos h2, if_pos h3, if_neg h4]
theorem sur_ask (h : chqE pub q nn = 0) (h2 : evE es = 0) (h3 : rulesE rl = 0) (h4 : digV (repV es) q.2.1 = q.2.2.1) (h5 : ¬ hasA q.2.1 rl = true) : surE pub q nn es rl = 5 := by unfold surE; rw [if_pos h, if_pos h2, if_pos h3, if_pos h4, if_neg h5]
theorem sur_fit (h : chqE pub q nn = 0) (h2 : evE es = 0) (h3 : rulesE rl = 0) (h4 : digV (repV es) q.2.1 = q.2.2.1) (h5 : hasA q.2.1 rl = true) (h6 : ¬ fitsB rl (repV es) = true) : surE pub q nn es rl = 6 := by unfold surE; rw [if_pos h, if_pos h2, if_pos h3, if_pos h4, if_pos h5, if_neg h6]
theorem sur_ok (h : chqE pub q nn = 0) (h2 : evE es = 0) (h3 : rulesE rl = 0) (h4 : digV (repV es) q.2.1 = q.2.2.1) (h5 : hasA q.2.1 rl = true) (h6 : fitsB rl (repV es) = true) : surE pub q nn es rl = 0 := by unfold surE; rw [if_pos h, if_pos h2, if_pos h3, if_pos h4, if_pos h5, if_pos h6]
theorem sur_zero (h : surE pub q nn es rl = 0) : chqE pub q nn = 0 ∧ evE es = 0 ∧ rulesE rl = 0 ∧ digV (repV es) q.2.1 = q.2.2.1 ∧ hasA q.2.1 rl = true ∧ fitsB rl (repV es) = true := by
  by_cases h1 : chqE pub q nn = 0
  · by_cases h2 : evE es = 0
    · by_cases h3 : rulesE rl = 0
      · by_cases h4 : digV (repV es) q.2.1 = q.2.2.1
        · by_cases h5 : hasA q.2.1 rl = true
          · by_cases h6 : fitsB rl (repV es) = true
            · exact ⟨h1, h2, h3, h4, h5, h6⟩
            · rw [sur_fit h1 h2 h3 h4 h5 h6] at h; cases h
          · rw [sur_ask h1 h2 h3 h4 h5] at h; cases h
        · rw [sur_dig h1 h2 h3 h4] at h; cases h
      · rw [sur_rul h1 h2 h3] at h; exact absurd h h3
    · rw [sur_ev h1 h2] at h; exact absurd h h2
  · rw [sur_quo h1] at h; exact absurd h h1
end
theorem chq_empty (pub n nn : Int) : ¬ chqE pub (n, 0, 0, 0, 0) nn = 0 := by
  intro h
  have hr : rigQ pub (n, 0, 0, 0, 0) = 1 := by
    unfold rigQ rigC
    rw [form_no (Or.inr (Or.inl (show inB 0 = false by decide)))]
    rfl
  cases hf : fitQ (n, 0, 0, 0, 0) nn with
  | false => rw [chqE_no hf] at h; cases h
  | true => rw [chqE_rig hf (by rw [hr]; decide), hr] at h; cases h
end Go.Proofs.YtojdaifnljghkabGreatDoor.M
