/-
  Plain mathematics on keepers: what is wrong with one that is to be made; what asking and giving make of it.
-/
import Derived.Test.YtidnjnhmkhekeaaDoorPack1
namespace Go.Proofs.YtidnjnhmkhekeaaDoor.M
set_option linter.unusedVariables false

/-- A keeper: whose quotes it takes, its secret, how often it was given; the last number, how many were issued, which are open; and the rules. -/
structure KS where
  pub : Int
  sec : Int
  n : Int
  la : Int
  mn : Int
  xs : List Int
  rl : List (Int × List Int)
def kprE (pub sec seed : Int) (rl : List (Int × List Int)) : Int := if (inB pub && (isM sec && isM seed)) = true then rulesE rl else 1
def newK (pub sec seed : Int) (rl : List (Int × List Int)) : KS := ⟨pub, sec, 0, seed, 0, [], rl⟩
def fullK (s : KS) : Prop := 8 ≤ s.xs.length ∨ 30 ≤ s.mn
def askT (s : KS) : KS := { s with la := stp 7919 s.la s.mn, mn := s.mn + 1, xs := s.xs ++ [stp 7919 s.la s.mn] }
def givE (s : KS) (q : Int × Int × Int × Int × Int) (es : List (Int × Int)) : Int := if q.1 ∈ s.xs then surE s.pub q q.1 es s.rl else 5
def givV (s : KS) (q : Int × Int × Int × Int × Int) (es : List (Int × Int)) : Int := if givE s q es = 0 then s.sec else 0
def givT (s : KS) (q : Int × Int × Int × Int × Int) (es : List (Int × Int)) : KS := { s with n := s.n + (if givE s q es = 0 then 1 else 0), xs := s.xs.erase q.1 }
def OkK (s : KS) : Prop := inB s.pub = true ∧ isM s.sec = true ∧ isM s.la = true ∧ 0 ≤ s.mn ∧ s.mn ≤ 30 ∧ s.xs.length ≤ 8 ∧ 0 ≤ s.n ∧ s.n + s.xs.length ≤ s.mn ∧ rulesE s.rl = 0
section
variable {s : KS} {q : Int × Int × Int × Int × Int} {es : List (Int × Int)} {pub sec seed : Int} {rl : List (Int × List Int)}
theorem kprE_no (h : (inB pub && (isM sec && isM seed)) = false) : kprE pub sec seed rl = 1 := by unfold kprE; rw [h]; rfl
theorem kprE_rul (h : (inB pub && (isM sec && isM seed)) = true) : kprE pub sec seed rl = rulesE rl := if_pos h
theorem kprE_zero (h : kprE pub sec seed rl = 0) : inB pub = true ∧ isM sec = true ∧ isM seed = true ∧ rulesE rl = 0 := by
  cases hc : (inB pub && (isM sec && isM seed)) with
  | false => rw [kprE_no hc] at h; cases h
  | true =>
    rw [kprE_rul hc] at h
    simp only [Bool.and_eq_true] at hc
    exact ⟨hc.1, hc.2.1, hc.2.2, h⟩
theorem newK_ok (h : kprE pub sec seed rl = 0) : OkK (newK pub sec seed rl) := by
  obtain ⟨h1, h2, h3, h4⟩ := kprE_zero h
  exact ⟨h1, h2, h3, Int.le_refl _, by show (0 : Int) ≤ 30; omega, by show ([] : List Int).length ≤ 8; simp, Int.le_refl _, by show (0 : Int) + (([] : List Int).length : Nat) ≤ 0; simp, h4⟩
theorem askT_ok (h : OkK s) (hf : ¬ fullK s) : OkK (askT s) := by
  obtain ⟨h1, h2, h3, h4, h5, h6, h7, h8, h9⟩ := h
  unfold fullK at hf
  refine ⟨h1, h2, isM_iff.2 ⟨stp_ge _ _ _, stp_lt _ _ _⟩, ?_, ?_, ?_, h7, ?_, h9⟩
  · show 0 ≤ s.mn + 1; omega
  · show s.mn + 1 ≤ 30; omega
  · show (s.xs ++ [stp 7919 s.la s.mn]).length ≤ 8; rw [List.length_append]; simp; omega
  · show s.n + ((s.xs ++ [stp 7919 s.la s.mn]).length : Nat) ≤ s.mn + 1; rw [List.length_append]; simp; omega
theorem givE_out (h : q.1 ∉ s.xs) : givE s q es = 5 := if_neg h
theorem givE_in (h : q.1 ∈ s.xs) : givE s q es = surE s.pub q q.1 es s.rl := if_pos h
theorem givT_out (h : q.1 ∉ s.xs) : givT s q es = s := by
  unfold givT
  rw [givE_out h, List.erase_of_not_mem h]
  simp
theorem givV_out (h : q.1 ∉ s.xs) : givV s q es = 0 := by unfold givV; rw [givE_out h]; rfl
theorem givT_ok (h : OkK s) : OkK (givT s q es) := by
  by_cases hq : q.1 ∈ s.xs
  · obtain ⟨h1, h2, h3, h4, h5, h6, h7, h8, h9⟩ := h
    have hl : (s.xs.erase q.1).length = s.xs.length - 1 := List.length_erase_of_mem hq
    have hp : 0 < s.xs.length := List.length_pos_of_mem hq
    refine ⟨h1, h2, h3, h4, h5, ?_, ?_, ?_, h9⟩
    · show (s.xs.erase q.1).length ≤ 8; omega
    · show 0 ≤ s.n + (if givE s q es = 0 then 1 else 0); split <;> omega
    · show s.n + (if givE s q es = 0 then 1 else 0) + ((s.xs.erase q.1).length : Nat) ≤ s.mn
      rw [hl]
      split <;> omega
  · rw [givT_out hq]; exact h
end
end Go.Proofs.YtidnjnhmkhekeaaDoor.M
