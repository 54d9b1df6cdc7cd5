/-
  Plain mathematics on a log beside the counts that its records make, one by one: what a step does to both, and what is left behind a crash.
-/
import Derived.Test.YtgnpffkfbacejaaGreatDoorPack1
import Derived.Test.YtgnpffkfbacejaaGreatDoorQCntRef2
namespace Go.Proofs.YtgnpffkfbacejaaGreatDoor.M
set_option linter.unusedVariables false
open Go.Proofs.YtgnpffkfbacejaaGreatDoor

abbrev Cs := List (ByteArray × Int)
/-- Counts and marks, one more than there are records: of the first records each. -/
structure KR (j : LS) (D : List Cs) (M : List Nat) : Prop where
  dl : D.length = j.rs.length + 1
  ml : M.length = j.rs.length + 1
  ct : ∀ (i : Nat) (cs : Cs), D[i]? = some cs → CntRef.ofC cs = (cntL (j.rs.take i)).1 ∧ cs.length = (cntL (j.rs.take i)).2
  mkr : ∀ (i m : Nat), M[i]? = some m → m = lenL (j.rs.take i)
section
variable {j j' : LS} {D : List Cs} {M : List Nat} {cs : Cs} {nm : ByteArray} {v : Int} {n : Nat}
theorem kr_new : KR newL [[]] [0] := by
  refine ⟨rfl, rfl, fun i cs h => ?_, fun i m h => ?_⟩
  · match i, h with
    | 0, h => cases h; exact ⟨rfl, rfl⟩
    | i + 1, h => simp at h
  · match i, h with
    | 0, h => cases h; rfl
    | i + 1, h => simp at h
theorem kr_same (h : KR j D M) (e : j'.rs = j.rs) : KR j' D M := ⟨by rw [e]; exact h.dl, by rw [e]; exact h.ml, fun i cs hc => by rw [e]; exact h.ct i cs hc, fun i m hm => by rw [e]; exact h.mkr i m hm⟩
theorem kr_last (h : KR j D M) (hc : D[j.rs.length]? = some cs) : CntRef.ofC cs = j.f ∧ cs.length = j.k := by
  have := h.ct _ _ hc
  rw [List.take_length] at this
  exact this
theorem syn_rs (j : LS) : (synT j).rs = j.rs := by
  unfold synT
  split
  · rfl
  · split <;> rfl
theorem syn_all (h : synE j = 0) : (synT j).safe = (synT j).bytes := by
  unfold synE at h
  unfold synT
  split at h
  · cases h
  · rename_i hs
    split at h
    · cases h
    · rename_i hf
      rw [if_neg hs, if_neg hf]
      rfl
/-- What the reference tells of one raised: is it another one; the fault. -/
def refE (j : LS) (nm : ByteArray) (v : Int) : Int := if raiB j.f j.k nm v = true ∧ 30 ≤ j.rs.length then 4 else raiE j.f j.k nm v
def refB (j : LS) (nm : ByteArray) (v : Int) : Bool := raiB j.f j.k nm v && decide (j.rs.length < 30)
theorem raiE_six (f : ByteArray → Int) (k : Nat) (nm : ByteArray) (v : Int) : ¬ raiE f k nm v = 6 := by
  unfold raiE
  split
  · split
    · split
      · decide
      · split <;> decide
    · decide
  · decide
theorem lra_six (h : lraE j nm v = 6) : lraB j nm v = false ∧ (lraT j nm v n).rs = j.rs := by
  unfold lraE at h
  by_cases hs : j.stop = true
  · have hg : lraG j nm v = false := by unfold lraG; rw [hs]; rfl
    exact ⟨by unfold lraB; rw [hg, Bool.false_and], by unfold lraT; rw [hg]; rfl⟩
  · rw [if_neg hs] at h
    by_cases hr : raiB j.f j.k nm v = true
    · rw [if_pos hr] at h
      by_cases hl : j.rs.length < 30
      · rw [if_pos hl] at h
        by_cases hf : j.fail = 0
        · have hg : lraG j nm v = true := lraG_iff.2 ⟨by simpa using hs, hr, hl⟩
          refine ⟨by unfold lraB; rw [decide_eq_false (by intro hc; exact hc hf), Bool.and_false], ?_⟩
          unfold lraT
          rw [if_pos hg, if_pos hf]
        · rw [if_neg hf] at h; cases h
      · rw [if_neg hl] at h; cases h
    · rw [if_neg hr] at h
      exact absurd h (raiE_six _ _ _ _)
theorem lra_else (h : ¬ lraE j nm v = 6) : lraE j nm v = refE j nm v ∧ lraB j nm v = refB j nm v ∧ (refB j nm v = false → lraT j nm v n = j) ∧
    (refB j nm v = true → lraE j nm v = 0 ∧ lraT j nm v n = { j with rs := j.rs ++ [(nm, v, n)], fail := lessF j.fail }) := by
  unfold lraE at h ⊢
  by_cases hs : j.stop = true
  · rw [if_pos hs] at h; exact absurd rfl h
  · rw [if_neg hs] at h ⊢
    have hs' : j.stop = false := by simpa using hs
    by_cases hr : raiB j.f j.k nm v = true
    · rw [if_pos hr] at h ⊢
      by_cases hl : j.rs.length < 30
      · rw [if_pos hl] at h ⊢
        by_cases hf : j.fail = 0
        · rw [if_pos hf] at h; exact absurd rfl h
        · rw [if_neg hf]
          have hg : lraG j nm v = true := lraG_iff.2 ⟨hs', hr, hl⟩
          have hB : refB j nm v = true := by unfold refB; rw [hr, Bool.true_and]; exact decide_eq_true hl
          refine ⟨by unfold refE; rw [if_neg (by omega), raiE_rise hr], ?_, (fun hc => by rw [hB] at hc; cases hc), fun _ => ⟨rfl, ?_⟩⟩
          · unfold lraB
            rw [hg, hB, Bool.true_and]
            exact decide_eq_true hf
          · unfold lraT
            rw [if_pos hg, if_neg hf]
      · rw [if_neg hl]
        have hg : lraG j nm v = false := by unfold lraG; rw [decide_eq_false hl, Bool.and_false]
        have hB : refB j nm v = false := by unfold refB; rw [decide_eq_false hl, Bool.and_false]
        exact ⟨by unfold refE; rw [if_pos ⟨hr, by omega⟩], by unfold lraB; rw [hg, hB, Bool.false_and], (fun _ => by unfold lraT; rw [hg]; rfl), (fun hc => by rw [hB] at hc; cases hc)⟩
    · rw [if_neg hr]
      have hr' : raiB j.f j.k nm v = false := by simpa using hr
      have hg : lraG j nm v = false := by unfold lraG; rw [hr', Bool.and_false, Bool.false_and]
      have hB : refB j nm v = false := by unfold refB; rw [hr', Bool.false_and]
      exact ⟨by unfold refE; rw [if_neg (fun hc => hr hc.1)], by unfold lraB; rw [hg, hB, Bool.false_and], (fun _ => by unfold lraT; rw [hg]; rfl), (fun hc => by rw [hB] at hc; cases hc)⟩
/-- One record more, one of each more. -/
theorem kr_more (h : KR j D M) (hc : CntRef.ofC cs = raiF j.f j.k nm v) (hk : cs.length = raiK j.f j.k nm v) (e : j'.rs = j.rs ++ [(nm, v, n)]) : KR j' (D ++ [cs]) (M ++ [lenL (j.rs ++ [(nm, v, n)])]) := by
  have hdl := h.dl
  have hml := h.ml
  refine ⟨by rw [e, List.length_append, List.length_append, hdl]; rfl, by rw [e, List.length_append, List.length_append, hml]; rfl, fun i ds hd => ?_, fun i m hm => ?_⟩
  · rw [e]
    by_cases hi : i < D.length
    · rw [List.getElem?_append_left hi] at hd
      rw [List.take_append_of_le_length (by omega)]
      exact h.ct i ds hd
    · rw [List.getElem?_append_right (by omega)] at hd
      have h0 : i - D.length = 0 := by
        by_cases h0 : i - D.length = 0
        · exact h0
        · rw [List.getElem?_eq_none (by simp; omega)] at hd; cases hd
      rw [h0] at hd
      cases hd
      rw [show i = (j.rs ++ [(nm, v, n)]).length by rw [List.length_append]; simp; omega, List.take_length, cntL_snoc]
      exact ⟨hc, hk⟩
  · rw [e]
    by_cases hi : i < M.length
    · rw [List.getElem?_append_left hi] at hm
      rw [List.take_append_of_le_length (by omega)]
      exact h.mkr i m hm
    · rw [List.getElem?_append_right (by omega)] at hm
      have h0 : i - M.length = 0 := by
        by_cases h0 : i - M.length = 0
        · exact h0
        · rw [List.getElem?_eq_none (by simp; omega)] at hm; cases hm
      rw [h0] at hm
      cases hm
      rw [show i = (j.rs ++ [(nm, v, n)]).length by rw [List.length_append]; simp; omega, List.take_length]
/-- Behind a crash: as many of each as records are left, and the first. -/
theorem kr_crash (h : KR j D M) (keep : Int) : KR (craT j keep) (D.take (leftL j.rs (highL j keep) + 1)) (M.take (leftL j.rs (highL j keep) + 1)) ∧ (craT j keep).rs.length = leftL j.rs (highL j keep) := by
  have hl := leftL_le j.rs (highL j keep)
  have hdl := h.dl
  have hml := h.ml
  have hr : (craT j keep).rs = j.rs.take (leftL j.rs (highL j keep)) := rfl
  have hlen : (craT j keep).rs.length = leftL j.rs (highL j keep) := by rw [hr, List.length_take]; omega
  refine ⟨⟨by rw [hlen, List.length_take]; omega, by rw [hlen, List.length_take]; omega, fun i cs hc => ?_, fun i m hm => ?_⟩, hlen⟩
  · have hi : i < leftL j.rs (highL j keep) + 1 := by
      by_cases hi : i < leftL j.rs (highL j keep) + 1
      · exact hi
      · rw [List.getElem?_eq_none (by rw [List.length_take]; omega)] at hc; cases hc
    rw [List.getElem?_take_of_lt hi] at hc
    rw [hr, List.take_take, Nat.min_eq_left (by omega)]
    exact h.ct i cs hc
  · have hi : i < leftL j.rs (highL j keep) + 1 := by
      by_cases hi : i < leftL j.rs (highL j keep) + 1
      · exact hi
      · rw [List.getElem?_eq_none (by rw [List.length_take]; omega)] at hm; cases hm
    rw [List.getElem?_take_of_lt hi] at hm
    rw [hr, List.take_take, Nat.min_eq_left (by omega)]
    exact h.mkr i m hm
/-- The last mark that is not above, among the first i. -/
def lefT (M : List Nat) (h i : Nat) : Nat := (List.range i).foldl (fun l k => if M.getD k 0 ≤ h then k else l) 0
theorem lefT_zero (M : List Nat) (h : Nat) : lefT M h 0 = 0 := rfl
theorem lefT_succ (M : List Nat) (h i : Nat) : lefT M h (i + 1) = if M.getD i 0 ≤ h then i else lefT M h i := by
  unfold lefT
  rw [List.range_succ, List.foldl_append]
  rfl
theorem lefT_all (h : KR j D M) (hh : Nat) : ∀ i : Nat, i ≤ j.rs.length + 1 → 0 < i → lefT M hh i = min (i - 1) (leftL j.rs hh)
  | 0, _, hi => by omega
  | 1, _, _ => by
    rw [lefT_succ, lefT_zero]
    split <;> omega
  | i + 2, hi, _ => by
    have ih := lefT_all h hh (i + 1) (by omega) (by omega)
    rw [lefT_succ, ih]
    have hml := h.ml
    obtain ⟨m, hm⟩ : ∃ m, M[i + 1]? = some m := ⟨M[i + 1]'(by omega), List.getElem?_eq_getElem (by omega)⟩
    have e : M.getD (i + 1) 0 = lenL (j.rs.take (i + 1)) := by
      rw [List.getD_eq_getElem?_getD, hm]
      exact h.mkr _ _ hm
    rw [e]
    have hf := leftL_iff j.rs hh (i + 1) (by omega)
    by_cases hc : lenL (j.rs.take (i + 1)) ≤ hh
    · rw [if_pos hc]
      have := hf.1 hc
      omega
    · rw [if_neg hc]
      have : ¬ i + 1 ≤ leftL j.rs hh := fun h => hc (hf.2 h)
      omega
theorem lefT_end (h : KR j D M) (hh : Nat) : lefT M hh (j.rs.length + 1) = leftL j.rs hh := by
  rw [lefT_all h hh _ (Nat.le_refl _) (by omega)]
  have := leftL_le j.rs hh
  omega
end
/-- The closed fact: raised, kept, raised, and crashed. -/
theorem keep_fact (n1 n2 : Nat) (h1 : 2 ≤ n1) (h2 : 2 ≤ n2) (os : ByteArray) (ho : nameB os = true) :
    (lraE newL os 5 = 0 ∧ lraB newL os 5 = true) ∧ (let j1 := lraT newL os 5 n1; synE j1 = 0 ∧ (let j2 := synT j1; (lraE j2 os 9 = 0 ∧ lraB j2 os 9 = true) ∧ (let j4 := craT (lraT j2 os 9 n2) 0; j4.f os = 5 ∧ j4.bytes = j4.safe))) := by
  have b1 : raiB (fun _ => 0) 0 os 5 = true := raiB_iff.2 ⟨ho, by decide, by decide, by omega⟩
  have g1 : lraG newL os 5 = true := lraG_iff.2 ⟨rfl, b1, by decide⟩
  have e1 : lraT newL os 5 n1 = ⟨[(os, 5, n1)], 0, 0, -1, false⟩ := by
    unfold lraT
    rw [if_pos g1, if_neg (by decide)]
    rfl
  have e2 : synT ⟨[(os, 5, n1)], 0, 0, -1, false⟩ = ⟨[(os, 5, n1)], 0, n1, -1, false⟩ := by
    unfold synT
    rw [if_neg (show ¬ (false : Bool) = true by decide), if_neg (show ¬ (-1 : Int) = 0 by decide)]
    simp [LS.bytes, lenL, lessF]
  have f1 : (cntL [(os, 5, n1)]).1 os = 5 := by
    show raiF (fun _ => 0) 0 os 5 os = 5
    rw [raiF_yes b1, updF_same]
  have b2 : raiB (cntL [(os, 5, n1)]).1 (cntL [(os, 5, n1)]).2 os 9 = true := raiB_iff.2 ⟨ho, by decide, by rw [f1]; decide, by rw [f1]; omega⟩
  have g2 : lraG ⟨[(os, 5, n1)], 0, n1, -1, false⟩ os 9 = true := lraG_iff.2 ⟨rfl, b2, (show (1 : Nat) < 30 by decide)⟩
  have e3 : lraT ⟨[(os, 5, n1)], 0, n1, -1, false⟩ os 9 n2 = ⟨[(os, 5, n1), (os, 9, n2)], 0, n1, -1, false⟩ := by
    unfold lraT
    rw [if_pos g2, if_neg (show ¬ (-1 : Int) = 0 by decide)]
    rfl
  have e4 : craT ⟨[(os, 5, n1), (os, 9, n2)], 0, n1, -1, false⟩ 0 = ⟨[(os, 5, n1)], 0, n1, -1, false⟩ := by
    unfold craT highL
    simp only [Int.le_refl, if_true]
    have : leftL [(os, 5, n1), (os, 9, n2)] n1 = 1 := by
      simp [leftL]
      omega
    rw [this]
    simp [lenL]
  refine ⟨⟨?_, ?_⟩, ?_⟩
  · show (if (false : Bool) = true then (6 : Int) else if raiB (fun _ => 0) 0 os 5 = true then (if (0 : Nat) < 30 then (if (-1 : Int) = 0 then 6 else 0) else 4) else _) = 0
    rw [if_neg (by decide), if_pos b1, if_pos (by decide), if_neg (by decide)]
  · unfold lraB
    rw [g1]
    rfl
  · simp only [e1, e2, e3, e4]
    refine ⟨(show (if (false : Bool) = true then (6 : Int) else if (-1 : Int) = 0 then 6 else 0) = 0 by decide), ⟨?_, ?_⟩, f1, by simp [LS.bytes, lenL]⟩
    · show (if (false : Bool) = true then (6 : Int) else if raiB (cntL [(os, 5, n1)]).1 (cntL [(os, 5, n1)]).2 os 9 = true then (if (1 : Nat) < 30 then (if (-1 : Int) = 0 then 6 else 0) else 4) else _) = 0
      rw [if_neg (by decide), if_pos b2, if_pos (by decide), if_neg (by decide)]
    · unfold lraB
      rw [g2]
      rfl
end Go.Proofs.YtgnpffkfbacejaaGreatDoor.M
