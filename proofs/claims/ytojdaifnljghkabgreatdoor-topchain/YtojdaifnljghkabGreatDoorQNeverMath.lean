/-
  Plain mathematics on devices: which version is good, that all that waits is newer, and that what is told of what runs is sure.
-/
import Derived.Test.YtojdaifnljghkabGreatDoorQDeviceMath
import Derived.Test.YtojdaifnljghkabGreatDoorQSlotSafeMath
import Derived.Test.YtojdaifnljghkabGreatDoorQJudgeMeansMath
namespace Go.Proofs.YtojdaifnljghkabGreatDoor.M
set_option linter.unusedVariables false

/-- The image that is good is of the name n0 and the version g; what else is there is newer. -/
def VerD (n0 : ByteArray) (g : Int) (d : DS) : Prop := (safeS d.t).v = g ∧ (safeS d.t).nm = n0 ∧ ((d.t.at (!safeT d.t)).full = true → g < (d.t.at (!safeT d.t)).s.v)
theorem bool_other {i j : Bool} (h : ¬ i = j) : i = !j := by cases i <;> cases j <;> simp_all
theorem bool_ne (i : Bool) : ¬ i = !i := by cases i <;> decide
theorem bool_nn (i : Bool) : (!(!i)) = i := by cases i <;> rfl
theorem safe_run {t : St} (h : (t.at t.r).good = true) : safeT t = t.r := if_pos h
theorem safe_not {t : St} (h : ¬ (t.at t.r).good = true) : safeT t = !t.r := if_neg h
section
variable {root x g : Int} {s : Sg} {d : DS} {l : List (Int × Int × Int)} {n0 : ByteArray}
theorem ver_new : VerD s.nm s.v (newD root x s) := ⟨rfl, rfl, fun h => by cases h⟩
theorem put_good {t : St} (h : putE t s = 0) : (t.at t.r).good = true := by
  unfold putE at h
  by_cases h1 : sgE s = 0
  · rw [if_pos h1] at h
    by_cases h2 : (t.at t.r).good = true
    · exact h2
    · rw [if_neg h2] at h; cases h
  · rw [if_neg h1] at h; exact absurd h h1
theorem ver_upd (h : VerD n0 g d) : VerD n0 g (updD d l s) := by
  obtain ⟨h1, h2, h3⟩ := h
  by_cases hu : updE d.root l d.f (safeS d.t) s = 0
  · by_cases hp : putE d.t s = 0
    · have e : doT d.root l d.f d.t s = d.t.put (!d.t.r) ⟨s, true, 3, false⟩ := by rw [(do_ok hu).2]; unfold putT; rw [if_pos hp]
      have hg := put_good hp
      have hs := safe_run hg
      have hat : ((d.t.put (!d.t.r) ⟨s, true, 3, false⟩).at d.t.r) = d.t.at d.t.r := by rw [at_put, if_neg (bool_ne _)]
      have hs2 : safeT (d.t.put (!d.t.r) ⟨s, true, 3, false⟩) = d.t.r := by
        have := safe_run (t := d.t.put (!d.t.r) ⟨s, true, 3, false⟩) (by rw [put_r, hat]; exact hg)
        rw [this, put_r]
      obtain ⟨_, _, _, u4, _⟩ := upd_zero hu
      unfold safeS at h1 h2
      rw [hs] at h1 h2
      refine ⟨?_, ?_, fun _ => ?_⟩
      · show (safeS (doT d.root l d.f d.t s)).v = g
        unfold safeS
        rw [e, hs2, hat]; exact h1
      · show (safeS (doT d.root l d.f d.t s)).nm = n0
        unfold safeS
        rw [e, hs2, hat]; exact h2
      · show g < ((doT d.root l d.f d.t s).at (!safeT (doT d.root l d.f d.t s))).s.v
        rw [e, hs2, at_put, if_pos rfl]
        have : (safeS d.t).v < s.v := u4
        unfold safeS at this
        rw [hs, h1] at this
        exact this
    · have e : doT d.root l d.f d.t s = d.t := by rw [(do_ok hu).2]; unfold putT; rw [if_neg hp]
      show VerD n0 g { d with t := doT d.root l d.f d.t s }
      rw [e]; exact ⟨h1, h2, h3⟩
  · have e : doT d.root l d.f d.t s = d.t := (do_no hu).2
    show VerD n0 g { d with t := doT d.root l d.f d.t s }
    rw [e]; exact ⟨h1, h2, h3⟩
theorem ver_sta (ho : OkD d) (h : VerD n0 g d) : VerD n0 g (staD d) := by
  obtain ⟨h1, h2, h3⟩ := h
  have hs := safe_start ho.2.2.1
  unfold safeS at h1 h2
  refine ⟨?_, ?_, fun hf => ?_⟩
  · show (safeS (startT d.t)).v = g
    unfold safeS
    rw [hs, (start_at _ _).1]; exact h1
  · show (safeS (startT d.t)).nm = n0
    unfold safeS
    rw [hs, (start_at _ _).1]; exact h2
  · have hf' : ((startT d.t).at (!safeT (startT d.t))).full = true := hf
    rw [hs, (start_at _ _).2] at hf'
    show g < ((startT d.t).at (!safeT (startT d.t))).s.v
    rw [hs, (start_at _ _).1]
    exact h3 hf'
/-- What runs: an image that is right, of the one name, no older than what is good, and newer if it is not good yet. -/
theorem ver_on (ho : OkD d) (h : VerD n0 g d) (hon : d.on = true) : g ≤ d.v ∧ d.nm = n0 ∧ (goodE d.t = 0 → g < d.v) ∧ imgE d.nm d.v d.cd = 0 := by
  obtain ⟨h1, h2, h3⟩ := h
  obtain ⟨n1, m1, hN, e1, _, _, _, _, _, hi⟩ := okD_rai ho hon
  obtain ⟨_, _, _, _, _, g6, g7⟩ := hN
  obtain ⟨q1, q2, q3⟩ := g7 hon
  have hn : n1 = n0 := (g6 _ ho.2.2.1.full).1.symm.trans h2
  unfold safeS at h1 h2
  by_cases hg : (d.t.at d.t.r).good = true
  · have hs := safe_run hg
    rw [hs] at h1
    exact ⟨by omega, e1.trans hn, fun hz => absurd hg (good_zero hz), hi⟩
  · have hs := safe_not hg
    rw [hs, bool_nn] at h3
    have := h3 ho.2.2.1.run
    exact ⟨by omega, e1.trans hn, fun _ => by omega, hi⟩
theorem ver_goo (ho : OkD d) (h : VerD n0 g d) (hc : d.on = true ∧ goodE d.t = 0) : VerD n0 d.v (gooD d) := by
  obtain ⟨_, hnm, _, _⟩ := ver_on ho h hc.1
  obtain ⟨_, _, _, _, n1, m1, _, _, _, _, _, _, g7⟩ := ho
  obtain ⟨q1, q2, q3⟩ := g7 hc.1
  have e : goodT d.t = (d.t.put d.t.r { (d.t.at d.t.r) with good := true, tries := 0 }).put (!d.t.r) noSl := by unfold goodT; rw [if_neg (good_zero hc.2)]
  have hr : (goodT d.t).r = d.t.r := by rw [e, put_r, put_r]
  have ha : (goodT d.t).at d.t.r = { (d.t.at d.t.r) with good := true, tries := 0 } := by rw [e, at_put, if_neg (bool_ne _), at_put, if_pos rfl]
  have hb : (goodT d.t).at (!d.t.r) = noSl := by rw [e, at_put, if_pos rfl]
  have hs : safeT (goodT d.t) = d.t.r := by rw [safe_run (by rw [hr, ha]), hr]
  have eg : gooD d = { d with t := goodT d.t, f := raiF d.f d.k d.nm d.v, k := raiK d.f d.k d.nm d.v } := if_pos hc
  rw [eg]
  refine ⟨?_, ?_, fun hf => ?_⟩
  · show (safeS (goodT d.t)).v = d.v
    unfold safeS
    rw [hs, ha]; exact q2.symm
  · show (safeS (goodT d.t)).nm = n0
    unfold safeS
    rw [hs, ha]; exact q1.symm.trans hnm
  · have hf' : ((goodT d.t).at (!safeT (goodT d.t))).full = true := hf
    rw [hs, hb] at hf'
    cases hf'
theorem goo_no (hc : ¬ (d.on = true ∧ goodE d.t = 0)) : gooD d = d := if_neg hc
theorem gooE_zero : gooE d = 0 ↔ (d.on = true ∧ goodE d.t = 0) := by
  unfold gooE
  cases d.on <;> simp
theorem gooD_run : (gooD d).on = d.on ∧ (gooD d).nm = d.nm ∧ (gooD d).v = d.v ∧ (gooD d).cd = d.cd ∧ (gooD d).x = d.x ∧ (gooD d).root = d.root := by
  unfold gooD
  split <;> exact ⟨rfl, rfl, rfl, rfl, rfl, rfl⟩
/-- What is told of what runs is sure. -/
theorem tel_sure {k n : Int} (ho : OkD d) (hon : d.on = true) (ht : telD d k n 1 = 0) : telL d k n 1 = [(0, meaV d.nm d.v d.cd)] ∧ surE (pwZ 64 d.x) (telQ d k n 1) n (telL d k n 1) [] = 0 := by
  have hl : telL d k n 1 = evD d := if_pos ht
  have hq : telQ d k n 1 = quoV d.x k n 1 (repV (evD d)) := if_pos hon
  have he : quoE d.x k n 1 (repV (evD d)) = 0 := by
    have : telD d k n 1 = quoE d.x k n 1 (repV (evD d)) := if_pos hon
    rw [← this]; exact ht
  obtain ⟨_, _, _, _, _, _, _, _, _, hi⟩ := okD_rai ho hon
  have hev : evE (evD d) = 0 := by
    refine evE_ok (by show ¬ 30 < 1; omega) ?_
    show ((evOk (0, meaV d.nm d.v d.cd)) && true) = true
    rw [Bool.and_true, evOk_iff]
    exact ⟨(show isReg 0 = true by decide), mea_is _ _ _⟩
  refine ⟨hl, ?_⟩
  rw [hl, hq]
  exact (sur_own he hev rfl).2 rfl
end
end Go.Proofs.YtojdaifnljghkabGreatDoor.M
