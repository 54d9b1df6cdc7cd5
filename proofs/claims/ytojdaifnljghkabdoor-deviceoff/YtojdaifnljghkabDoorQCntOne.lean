/-
  Plain mathematics on counts of one name alone: its least version is the greatest that was, in whatever order.
-/
import Derived.Test.YtojdaifnljghkabDoorQCntMath
namespace Go.Proofs.YtojdaifnljghkabDoor.M
set_option linter.unusedVariables false

def oneF (nm : ByteArray) (m : Int) : ByteArray → Int := fun s => if s = nm then m else 0
def oneK (m : Int) : Nat := if m = 0 then 0 else 1
def valV (v : Int) : Int := if 0 ≤ v ∧ v ≤ 1000 then v else 0
def stepM (m v : Int) : Int := max m (valV v)
theorem oneF_zero (nm : ByteArray) : oneF nm 0 = fun _ => 0 := by funext s; unfold oneF; split <;> rfl
theorem oneF_at (nm : ByteArray) (m : Int) : oneF nm m nm = m := if_pos rfl
theorem oneF_upd (nm : ByteArray) (m v : Int) : updF (oneF nm m) nm v = oneF nm v := by
  funext s
  unfold updF oneF
  by_cases e : s = nm
  · rw [if_pos e, if_pos e]
  · rw [if_neg e, if_neg e, if_neg e]
theorem stepM_ge {m v : Int} (h : 0 ≤ m) : 0 ≤ stepM m v ∧ m ≤ stepM m v := by unfold stepM; omega
theorem stepM_eq {m v : Int} (h : 0 ≤ m) : stepM m v = if 0 ≤ v ∧ v ≤ 1000 ∧ m < v then v else m := by
  unfold stepM valV
  split <;> split <;> omega
theorem raise_one {nm : ByteArray} {m v : Int} (hn : nameB nm = true) (hm : 0 ≤ m) :
    raiB (oneF nm m) (oneK m) nm v = decide (m < stepM m v) ∧ raiE (oneF nm m) (oneK m) nm v = (if 0 ≤ v ∧ v ≤ 1000 then 0 else 1) ∧ raiF (oneF nm m) (oneK m) nm v = oneF nm (stepM m v) ∧ raiK (oneF nm m) (oneK m) nm v = oneK (stepM m v) := by
  have hk : ¬ (oneF nm m nm = 0 ∧ 12 ≤ oneK m) := by unfold oneK; split <;> omega
  have hat := oneF_at nm m
  have hs := stepM_eq (v := v) hm
  by_cases hc : 0 ≤ v ∧ v ≤ 1000 ∧ m < v
  · rw [if_pos hc] at hs
    have hb : raiB (oneF nm m) (oneK m) nm v = true := raiB_iff.2 ⟨hn, ⟨hc.1, hc.2.1⟩, by rw [hat]; exact hc.2.2, hk⟩
    refine ⟨by rw [hb, hs]; exact (decide_eq_true hc.2.2).symm, by rw [raiE_rise hb, if_pos ⟨hc.1, hc.2.1⟩], by rw [raiF_yes hb, oneF_upd, hs], ?_⟩
    unfold raiK
    rw [if_pos hb, hat, hs]
    unfold oneK
    rw [if_neg (show ¬ v = 0 by omega)]
    split <;> rfl
  · rw [if_neg hc] at hs
    have hb : ¬ raiB (oneF nm m) (oneK m) nm v = true := fun hb => hc (by obtain ⟨_, h2, h3, _⟩ := raiB_iff.1 hb; rw [hat] at h3; exact ⟨h2.1, h2.2, h3⟩)
    refine ⟨by rw [hs]; simp at hb ⊢; exact hb, ?_, by rw [raiF_no hb, hs], by rw [raiK_no hb, hs]⟩
    unfold raiE
    rw [if_pos hn]
    by_cases hv : 0 ≤ v ∧ v ≤ 1000
    · rw [if_pos hv, if_pos hv, if_pos (by rw [hat]; omega)]
    · rw [if_neg hv, if_neg hv]
theorem may_one {nm : ByteArray} {m v : Int} (hn : nameB nm = true) : mayE (oneF nm m) nm v = if 1 ≤ v ∧ v ≤ 1000 then (if v < m then 9 else 0) else 1 := by unfold mayE; rw [if_pos hn, oneF_at]
/-- The greatest of some. -/
def mx : List Int → Int
  | [] => 0
  | v :: r => stepM (mx r) v
theorem mx_ge : ∀ xs, 0 ≤ mx xs
  | [] => Int.le_refl _
  | v :: r => (stepM_ge (mx_ge r)).1
theorem mx_snoc (v : Int) : ∀ xs, mx (xs ++ [v]) = stepM (mx xs) v
  | [] => rfl
  | u :: r => by
    rw [List.cons_append]
    show stepM (mx (r ++ [v])) u = stepM (stepM (mx r) u) v
    rw [mx_snoc v r]
    unfold stepM
    omega
theorem mx_take {xs : List Int} {k : Nat} {v : Int} (h : xs[k]? = some v) : mx (xs.take (k + 1)) = stepM (mx (xs.take k)) v := by rw [take_one h, mx_snoc]
theorem mx_drop {xs : List Int} {k : Nat} {v : Int} (h : xs[k]? = some v) : mx (xs.drop k) = stepM (mx (xs.drop (k + 1))) v := by
  obtain ⟨h1, h2⟩ := List.getElem?_eq_some_iff.1 h
  rw [List.drop_eq_getElem_cons h1, h2]
  rfl
end Go.Proofs.YtojdaifnljghkabDoor.M
