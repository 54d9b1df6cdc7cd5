/-
  Plain mathematics on a log of one name whose versions rise by one: when it stops, and what is behind a crash.
-/
import Derived.Test.YtgnpffkfbacejaaDoorLogMath
import Derived.Test.YtgnpffkfbacejaaDoorCntOne
namespace Go.Proofs.YtgnpffkfbacejaaDoor.M
set_option linter.unusedVariables false

def osB : ByteArray := { data := #[111, 115] }
def noB : ByteArray := { data := #[] }
theorem os_name : nameB osB = true := by decide
theorem no_name : nameB noB = false := by decide
/-- Each record is of the one name, and its version one more than the one ahead. -/
def OsR (rs : List Rcd) : Prop := ∀ (i : Nat) (r : Rcd), rs[i]? = some r → r.1 = osB ∧ r.2.1 = (i : Int) + 1
theorem os_cnt : ∀ (n : Nat) (rs : List Rcd), rs.length = n → OsR rs → n ≤ 1000 → cntL rs = (oneF osB n, oneK n)
  | 0, rs, hn, _, _ => by
    have : rs = [] := List.length_eq_zero_iff.1 hn
    subst this
    rw [cntL_nil]
    show ((fun _ => 0 : ByteArray → Int), 0) = (oneF osB 0, oneK 0)
    rw [oneF_zero]
    rfl
  | n + 1, rs, hn, h, hb => by
    obtain ⟨r, hr⟩ : ∃ r, rs[n]? = some r := ⟨rs[n]'(by omega), List.getElem?_eq_getElem (by omega)⟩
    have e : rs = rs.take n ++ [r] := by
      have := take_one hr
      rw [List.take_of_length_le (by omega)] at this
      exact this
    have h1 := os_cnt n (rs.take n) (by rw [List.length_take]; omega) (fun i q hq => by
      by_cases hi : i < n
      · rw [List.getElem?_take_of_lt hi] at hq; exact h i q hq
      · rw [List.getElem?_eq_none (by rw [List.length_take]; omega)] at hq; cases hq) (by omega)
    obtain ⟨r1, r2⟩ := h n r hr
    rw [e, cntL_snoc, h1, r1, r2]
    obtain ⟨_, _, q3, q4⟩ := raise_one (nm := osB) (m := (n : Int)) (v := (n : Int) + 1) os_name (by omega)
    have hs : stepM (n : Int) ((n : Int) + 1) = ((n + 1 : Nat) : Int) := by
      rw [stepM_eq (by omega), if_pos (by omega)]
      omega
    rw [hs] at q3 q4
    simp only [q3, q4]
theorem os_snoc {rs : List Rcd} (h : OsR rs) (n : Nat) : OsR (rs ++ [(osB, (rs.length : Int) + 1, n)]) := by
  intro i r hr
  by_cases hi : i < rs.length
  · rw [List.getElem?_append_left hi] at hr; exact h i r hr
  · rw [List.getElem?_append_right (by omega)] at hr
    have h0 : i - rs.length = 0 := by
      by_cases h0 : i - rs.length = 0
      · exact h0
      · rw [List.getElem?_eq_none (by simp; omega)] at hr; cases hr
    rw [h0] at hr
    cases hr
    exact ⟨rfl, by show (rs.length : Int) + 1 = (i : Int) + 1; omega⟩
theorem os_take {rs : List Rcd} (h : OsR rs) (n : Nat) : OsR (rs.take n) := by
  intro i r hr
  by_cases hi : i < n
  · rw [List.getElem?_take_of_lt hi] at hr; exact h i r hr
  · rw [List.getElem?_eq_none (by rw [List.length_take]; omega)] at hr; cases hr
/-- Behind so many steps, of which it stops at the one that was told. -/
structure OsS (after s : Nat) (j : LS) : Prop where
  go : s ≤ after → j.stop = false ∧ j.fail = (after : Int) - s
  no : after < s → j.stop = true
  os : OsR j.rs
  le : j.rs.length ≤ 20
def OsL (after s : Nat) (j : LS) : Prop := OsS after s j ∧ (s ≤ after → j.rs.length = s)
section
variable {after s i n : Nat} {j : LS}
theorem raiB_bad (f : ByteArray → Int) (k : Nat) (v : Int) : raiB f k noB v = false := (raiE_name no_name).2
theorem os_bad (v : Int) : lraE j noB v = (if j.stop = true then 6 else 3) ∧ lraB j noB v = false ∧ lraT j noB v n = j := by
  have hg : lraG j noB v = false := by unfold lraG; rw [raiB_bad, Bool.and_false, Bool.false_and]
  refine ⟨?_, by unfold lraB; rw [hg, Bool.false_and], by unfold lraT; rw [hg]; rfl⟩
  unfold lraE
  split
  · rfl
  · rw [raiB_bad, (raiE_name no_name).1]; rfl
theorem osL_new (h : after ≤ 20) : OsL after 0 (faiT newL after) := by
  refine ⟨⟨fun _ => ⟨rfl, ?_⟩, fun h => by omega, fun i r hr => by simp [faiT, newL] at hr, by simp [faiT, newL]⟩, fun _ => rfl⟩
  show (if (after : Int) < 0 then -1 else (after : Int)) = after - (0 : Nat)
  rw [if_neg (by omega)]
  omega
theorem os_rise (h : OsR j.rs) (hl : j.rs.length ≤ 20) {v : Int} (h1 : (j.rs.length : Int) < v) (h2 : v ≤ 1000) : raiB j.f j.k osB v = true := by
  have hc := os_cnt j.rs.length j.rs rfl h (by omega)
  unfold LS.f LS.k
  rw [hc]
  obtain ⟨q1, _⟩ := raise_one (nm := osB) (m := (j.rs.length : Int)) (v := v) os_name (by omega)
  simp only [q1]
  rw [stepM_eq (by omega), if_pos (by omega)]
  exact decide_eq_true h1
theorem os_raise (h : OsL after i j) (hi : i < 20) : lraE j osB ((i : Int) + 1) = (if i < after then 0 else 6) ∧ OsL after (i + 1) (lraT j osB ((i : Int) + 1) n) := by
  obtain ⟨⟨h1, h2, h3, h4⟩, h5⟩ := h
  by_cases hc : i ≤ after
  · obtain ⟨g1, g2⟩ := h1 hc
    have hl := h5 hc
    have hr := os_rise h3 h4 (v := (i : Int) + 1) (by omega) (by omega)
    have hg : lraG j osB ((i : Int) + 1) = true := lraG_iff.2 ⟨g1, hr, by omega⟩
    have hE : lraE j osB ((i : Int) + 1) = if j.fail = 0 then 6 else 0 := by
      unfold lraE
      rw [g1, if_neg Bool.false_ne_true, if_pos hr, if_pos (by omega)]
    by_cases he : i = after
    · have hf : j.fail = 0 := by omega
      rw [hE, if_pos hf, if_neg (by omega)]
      refine ⟨rfl, ?_⟩
      unfold lraT
      rw [if_pos hg, if_pos hf]
      exact ⟨⟨fun h => by omega, fun _ => rfl, h3, h4⟩, fun h => by omega⟩
    · have hf : ¬ j.fail = 0 := by omega
      rw [hE, if_neg hf, if_pos (by omega)]
      refine ⟨rfl, ?_⟩
      unfold lraT
      rw [if_pos hg, if_neg hf]
      refine ⟨⟨fun _ => ⟨g1, ?_⟩, fun h => by omega, ?_, ?_⟩, fun _ => ?_⟩
      · show lessF j.fail = _
        unfold lessF
        rw [if_pos (by omega)]
        omega
      · show OsR (j.rs ++ [(osB, (i : Int) + 1, n)])
        have := os_snoc h3 n
        rw [hl] at this
        exact this
      · show (j.rs ++ [(osB, (i : Int) + 1, n)]).length ≤ 20
        rw [List.length_append, hl]
        simp
        omega
      · show (j.rs ++ [(osB, (i : Int) + 1, n)]).length = i + 1
        rw [List.length_append, hl]
        rfl
  · have hs := h2 (by omega)
    have hg : lraG j osB ((i : Int) + 1) = false := by unfold lraG; rw [hs]; rfl
    refine ⟨by unfold lraE; rw [if_pos hs, if_neg (by omega)], ?_⟩
    unfold lraT
    rw [hg]
    exact ⟨⟨fun h => by omega, fun _ => hs, h3, h4⟩, fun h => by omega⟩
theorem os_sync (h : OsS after s j) (hs : s ≤ after) : synE j = (if s = after then 6 else 0) ∧ OsS after (s + 1) (synT j) := by
  obtain ⟨h1, h2, h3, h4⟩ := h
  obtain ⟨g1, g2⟩ := h1 hs
  unfold synE synT
  rw [g1, if_neg Bool.false_ne_true, if_neg Bool.false_ne_true]
  by_cases he : s = after
  · have hf : j.fail = 0 := by omega
    rw [if_pos hf, if_pos he, if_pos hf]
    exact ⟨rfl, fun h => by omega, fun _ => rfl, h3, h4⟩
  · have hf : ¬ j.fail = 0 := by omega
    rw [if_neg hf, if_neg he, if_neg hf]
    refine ⟨rfl, fun _ => ⟨rfl, ?_⟩, fun h => by omega, h3, h4⟩
    show lessF j.fail = _
    unfold lessF
    rw [if_pos (by omega)]
    omega
theorem os_stop (h : OsS after s j) (hs : after < s) : synE j = 6 ∧ synT j = j ∧ lraE j osB 3 = 6 ∧ (∀ n, lraT j osB 3 n = j) := by
  have hp := h.no hs
  have hg : lraG j osB 3 = false := by unfold lraG; rw [hp]; rfl
  exact ⟨by unfold synE; rw [if_pos hp], by unfold synT; rw [if_pos hp], by unfold lraE; rw [if_pos hp], fun n => by unfold lraT; rw [hg]; rfl⟩
/-- Behind a crash all goes on. -/
theorem os_crash (h : OsS after s j) (keep : Int) (m : Nat) : lraE (craT j keep) osB 900 = 0 ∧ lraB (craT j keep) osB 900 = true ∧ synE (lraT (craT j keep) osB 900 m) = 0 ∧
    (synT (lraT (craT j keep) osB 900 m)).f osB = 900 ∧ (synT (lraT (craT j keep) osB 900 m)).safe = (synT (lraT (craT j keep) osB 900 m)).bytes := by
  obtain ⟨h1, h2, h3, h4⟩ := h
  have k3 : OsR (craT j keep).rs := os_take h3 _
  have k4 : (craT j keep).rs.length ≤ 20 := by
    show (j.rs.take (leftL j.rs (highL j keep))).length ≤ 20
    rw [List.length_take]
    omega
  have ks : (craT j keep).stop = false := rfl
  have kf : (craT j keep).fail = -1 := rfl
  have kh : (craT j keep).half = 0 := rfl
  generalize craT j keep = c at *
  have hr := os_rise k3 k4 (v := 900) (by omega) (by omega)
  have hg : lraG c osB 900 = true := lraG_iff.2 ⟨ks, hr, by omega⟩
  have hf : ¬ c.fail = 0 := by omega
  have e : lraT c osB 900 m = { c with rs := c.rs ++ [(osB, 900, m)], fail := lessF c.fail } := by unfold lraT; rw [if_pos hg, if_neg hf]
  have hlf : lessF c.fail = -1 := by rw [kf]; rfl
  rw [e, hlf]
  have hsy : synT { c with rs := c.rs ++ [(osB, 900, m)], fail := -1 } = { c with rs := c.rs ++ [(osB, 900, m)], safe := lenL (c.rs ++ [(osB, 900, m)]) + c.half, fail := -1 } := by
    unfold synT
    simp only [ks, Bool.false_eq_true, if_false]
    rw [if_neg (by decide)]
    rfl
  refine ⟨?_, ?_, ?_, ?_, ?_⟩
  · unfold lraE
    rw [ks, if_neg Bool.false_ne_true, if_pos hr, if_pos (by omega), if_neg hf]
  · unfold lraB
    rw [hg, Bool.true_and]
    exact decide_eq_true hf
  · unfold synE
    simp only [ks, Bool.false_eq_true, if_false]
    rw [if_neg (by decide)]
  · rw [hsy]
    show (cntL (c.rs ++ [(osB, 900, m)])).1 osB = 900
    rw [cntL_snoc]
    show raiF c.f c.k osB 900 osB = 900
    rw [raiF_yes hr, updF_same]
  · rw [hsy]
    rfl
end
end Go.Proofs.YtgnpffkfbacejaaDoor.M
