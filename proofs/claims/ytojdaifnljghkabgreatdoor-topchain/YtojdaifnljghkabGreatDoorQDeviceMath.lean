/-
  Plain mathematics on devices: what updating, starting, being good and telling make of one; all that is in it is of one name, and each version is in its bounds.
-/
import Derived.Test.YtojdaifnljghkabGreatDoorPack1
import Derived.Test.YtojdaifnljghkabGreatDoorPack2
import Derived.Test.YtojdaifnljghkabGreatDoorQQuoteMath
namespace Go.Proofs.YtojdaifnljghkabGreatDoor.M
set_option linter.unusedVariables false

/-- A device: its root key and secret, the least versions and of how many names, the slots; was anything started, and which image. -/
structure DS where
  root : Int
  x : Int
  f : ByteArray → Int
  k : Nat
  t : St
  on : Bool
  nm : ByteArray
  v : Int
  cd : ByteArray
def dvcE (root x : Int) (s : Sg) : Int := if (inB root && secB x) = true then sgE s else 1
def newD (root x : Int) (s : Sg) : DS := ⟨root, x, fun _ => 0, 0, newT s, false, { data := #[] }, 0, { data := #[] }⟩
def upeD (d : DS) (l : List (Int × Int × Int)) (s : Sg) : Int := doE d.root l d.f d.t s
def updD (d : DS) (l : List (Int × Int × Int)) (s : Sg) : DS := { d with t := doT d.root l d.f d.t s }
def trialD (d : DS) : Bool := !(d.t.at (pickT d.t)).good
def staD (d : DS) : DS := { d with t := startT d.t, on := true, nm := (d.t.at (pickT d.t)).s.nm, v := (d.t.at (pickT d.t)).s.v, cd := (d.t.at (pickT d.t)).s.cd }
def gooE (d : DS) : Int := if d.on = true then goodE d.t else 6
def gooD (d : DS) : DS := if d.on = true ∧ goodE d.t = 0 then { d with t := goodT d.t, f := raiF d.f d.k d.nm d.v, k := raiK d.f d.k d.nm d.v } else d
def evD (d : DS) : List (Int × Int) := [(0, meaV d.nm d.v d.cd)]
def telD (d : DS) (k n m : Int) : Int := if d.on = true then quoE d.x k n m (repV (evD d)) else 6
def telQ (d : DS) (k n m : Int) : Int × Int × Int × Int × Int := if d.on = true then quoV d.x k n m (repV (evD d)) else (0, 0, 0, 0, 0)
def telL (d : DS) (k n m : Int) : List (Int × Int) := if telD d k n m = 0 then evD d else []
def runD (d : DS) : Int := if d.on = true then 0 else 6
/-- All that is full is an image that is right, of the one name; what runs is in the slot that runs. -/
def NmD (n0 : ByteArray) (m0 : Int) (d : DS) : Prop :=
  nameB n0 = true ∧ 0 ≤ m0 ∧ m0 ≤ 1000 ∧ d.f = oneF n0 m0 ∧ d.k = oneK m0 ∧ (∀ i, (d.t.at i).full = true → (d.t.at i).s.nm = n0 ∧ sgE (d.t.at i).s = 0) ∧
    (d.on = true → d.nm = (d.t.at d.t.r).s.nm ∧ d.v = (d.t.at d.t.r).s.v ∧ d.cd = (d.t.at d.t.r).s.cd)
def OkD (d : DS) : Prop := inB d.root = true ∧ secB d.x = true ∧ OkT d.t ∧ szT d.t ∧ ∃ n0 m0, NmD n0 m0 d
theorem img_name {nm cd : ByteArray} {v : Int} (h : imgE nm v cd = 0) : nameB nm = true ∧ 1 ≤ v ∧ v ≤ 1000 := by
  obtain ⟨h1, h2, _, h4, _, h6, h7⟩ := imgE_zero h
  refine ⟨?_, h6, h7⟩
  unfold nameB
  rw [h2, Bool.true_and, decide_eq_true_iff]
  omega
theorem at_put (t : St) (i j : Bool) (l : Sl) : (t.put i l).at j = if j = i then l else t.at j := by cases i <;> cases j <;> rfl
theorem put_r (t : St) (i : Bool) (l : Sl) : (t.put i l).r = t.r := by cases i <;> rfl
section
variable {root x : Int} {s : Sg} {d : DS} {l : List (Int × Int × Int)}
theorem dvcE_no (h : (inB root && secB x) = false) : dvcE root x s = 1 := by unfold dvcE; rw [h]; rfl
theorem dvcE_img (h : (inB root && secB x) = true) : dvcE root x s = sgE s := if_pos h
theorem dvcE_zero (h : dvcE root x s = 0) : inB root = true ∧ secB x = true ∧ sgE s = 0 := by
  cases hc : (inB root && secB x) with
  | false => rw [dvcE_no hc] at h; cases h
  | true =>
    rw [dvcE_img hc] at h
    rw [Bool.and_eq_true] at hc
    exact ⟨hc.1, hc.2, h⟩
theorem okD_new (h : dvcE root x s = 0) (hs : szS s) : OkD (newD root x s) := by
  obtain ⟨h1, h2, h3⟩ := dvcE_zero h
  refine ⟨h1, h2, ok_new s, szT.new hs, s.nm, 0, (img_name h3).1, Int.le_refl _, by omega, (oneF_zero _).symm, rfl, fun i hi => ?_, fun h => by cases h⟩
  cases i
  · exact ⟨rfl, h3⟩
  · cases hi
theorem okD_upd (h : OkD d) (hs : szS s) : OkD (updD d l s) := by
  obtain ⟨h1, h2, h3, h4, n0, m0, g1, g2, g3, g4, g5, g6, g7⟩ := h
  have hT : szT (doT d.root l d.f d.t s) := szT.doT h4 hs
  by_cases hu : updE d.root l d.f (safeS d.t) s = 0
  · by_cases hp : putE d.t s = 0
    · have e : doT d.root l d.f d.t s = d.t.put (!d.t.r) ⟨s, true, 3, false⟩ := by rw [(do_ok hu).2]; unfold putT; rw [if_pos hp]
      have hok := ok_put h3 s
      have e2 : putT d.t s = d.t.put (!d.t.r) ⟨s, true, 3, false⟩ := by unfold putT; rw [if_pos hp]
      rw [e2] at hok
      obtain ⟨_, _, u3, _, _⟩ := upd_zero hu
      obtain ⟨n1, _, n3⟩ := new_zero u3
      refine ⟨h1, h2, ?_, hT, n0, m0, g1, g2, g3, g4, g5, ?_, ?_⟩
      · show OkT (doT d.root l d.f d.t s); rw [e]; exact hok
      · show ∀ i, ((doT d.root l d.f d.t s).at i).full = true → ((doT d.root l d.f d.t s).at i).s.nm = n0 ∧ sgE ((doT d.root l d.f d.t s).at i).s = 0
        rw [e]
        intro i hi
        rw [at_put] at hi ⊢
        by_cases hc : i = !d.t.r
        · rw [if_pos hc]
          exact ⟨n3.trans (g6 _ h3.full).1, n1⟩
        · rw [if_neg hc] at hi ⊢
          exact g6 i hi
      · show d.on = true → d.nm = ((doT d.root l d.f d.t s).at (doT d.root l d.f d.t s).r).s.nm ∧ d.v = ((doT d.root l d.f d.t s).at (doT d.root l d.f d.t s).r).s.v ∧ d.cd = ((doT d.root l d.f d.t s).at (doT d.root l d.f d.t s).r).s.cd
        rw [e, put_r, at_put, if_neg (by cases d.t.r <;> decide)]
        exact g7
    · have e : doT d.root l d.f d.t s = d.t := by rw [(do_ok hu).2]; unfold putT; rw [if_neg hp]
      refine ⟨h1, h2, ?_, hT, n0, m0, g1, g2, g3, g4, g5, ?_, ?_⟩
      · show OkT (doT d.root l d.f d.t s); rw [e]; exact h3
      · show ∀ i, ((doT d.root l d.f d.t s).at i).full = true → ((doT d.root l d.f d.t s).at i).s.nm = n0 ∧ sgE ((doT d.root l d.f d.t s).at i).s = 0
        rw [e]; exact g6
      · show d.on = true → d.nm = ((doT d.root l d.f d.t s).at (doT d.root l d.f d.t s).r).s.nm ∧ d.v = ((doT d.root l d.f d.t s).at (doT d.root l d.f d.t s).r).s.v ∧ d.cd = ((doT d.root l d.f d.t s).at (doT d.root l d.f d.t s).r).s.cd
        rw [e]; exact g7
  · have e : doT d.root l d.f d.t s = d.t := (do_no hu).2
    refine ⟨h1, h2, ?_, hT, n0, m0, g1, g2, g3, g4, g5, ?_, ?_⟩
    · show OkT (doT d.root l d.f d.t s); rw [e]; exact h3
    · show ∀ i, ((doT d.root l d.f d.t s).at i).full = true → ((doT d.root l d.f d.t s).at i).s.nm = n0 ∧ sgE ((doT d.root l d.f d.t s).at i).s = 0
      rw [e]; exact g6
    · show d.on = true → d.nm = ((doT d.root l d.f d.t s).at (doT d.root l d.f d.t s).r).s.nm ∧ d.v = ((doT d.root l d.f d.t s).at (doT d.root l d.f d.t s).r).s.v ∧ d.cd = ((doT d.root l d.f d.t s).at (doT d.root l d.f d.t s).r).s.cd
      rw [e]; exact g7
theorem less_full (l : Sl) : (lessL l).full = l.full := by unfold lessL; split <;> rfl
theorem start_at (t : St) (i : Bool) : ((startT t).at i).s = (t.at i).s ∧ ((startT t).at i).full = (t.at i).full := by
  unfold startT
  rw [at_put]
  by_cases h : i = pickT t
  · rw [if_pos h, lessL_s, less_full, h]; exact ⟨rfl, rfl⟩
  · rw [if_neg h]; cases i <;> exact ⟨rfl, rfl⟩
theorem start_r (t : St) : (startT t).r = pickT t := by unfold startT; rw [put_r]; rfl
theorem okD_sta (h : OkD d) : OkD (staD d) := by
  obtain ⟨h1, h2, h3, h4, n0, m0, g1, g2, g3, g4, g5, g6, g7⟩ := h
  refine ⟨h1, h2, ok_start h3, h4.start, n0, m0, g1, g2, g3, g4, g5, ?_, ?_⟩
  · show ∀ i, ((startT d.t).at i).full = true → ((startT d.t).at i).s.nm = n0 ∧ sgE ((startT d.t).at i).s = 0
    intro i hi
    rw [(start_at d.t i).2] at hi
    rw [(start_at d.t i).1]
    exact g6 i hi
  · intro _
    show (d.t.at (pickT d.t)).s.nm = ((startT d.t).at (startT d.t).r).s.nm ∧ (d.t.at (pickT d.t)).s.v = ((startT d.t).at (startT d.t).r).s.v ∧ (d.t.at (pickT d.t)).s.cd = ((startT d.t).at (startT d.t).r).s.cd
    rw [start_r, (start_at d.t (pickT d.t)).1]
    exact ⟨rfl, rfl, rfl⟩
theorem good_no {t : St} (h : ¬ goodE t = 0) : goodE t = 7 := by unfold goodE at h ⊢; split <;> simp_all
theorem good_zero {t : St} (h : goodE t = 0) : ¬ (t.at t.r).good = true := by intro hc; unfold goodE at h; rw [if_pos hc] at h; cases h
/-- What runs and is good from now on: its version is in its bounds, and raising it is refused for nothing. -/
theorem okD_rai (h : OkD d) (ho : d.on = true) : ∃ n0 m0, NmD n0 m0 d ∧ d.nm = n0 ∧ 1 ≤ d.v ∧ d.v ≤ 1000 ∧ raiE d.f d.k d.nm d.v = 0 ∧ raiF d.f d.k d.nm d.v = oneF n0 (stepM m0 d.v) ∧ raiK d.f d.k d.nm d.v = oneK (stepM m0 d.v) ∧ imgE d.nm d.v d.cd = 0 := by
  obtain ⟨h1, h2, h3, h4, n0, m0, hN⟩ := h
  have hN' := hN
  obtain ⟨g1, g2, g3, g4, g5, g6, g7⟩ := hN
  obtain ⟨e1, e2, e3⟩ := g7 ho
  obtain ⟨r1, r2⟩ := g6 _ h3.run
  have hi : imgE d.nm d.v d.cd = 0 := by rw [e1, e2, e3]; exact r2
  obtain ⟨_, i2, i3⟩ := img_name hi
  have hnm : d.nm = n0 := e1.trans r1
  obtain ⟨q1, q2, q3, q4⟩ := raise_one (nm := n0) (m := m0) (v := d.v) g1 g2
  refine ⟨n0, m0, hN', hnm, i2, i3, ?_, ?_, ?_, hi⟩
  · rw [g4, g5, hnm, q2, if_pos ⟨by omega, i3⟩]
  · rw [g4, g5, hnm, q3]
  · rw [g4, g5, hnm, q4]
theorem okD_goo (h : OkD d) : OkD (gooD d) := by
  unfold gooD
  by_cases hc : d.on = true ∧ goodE d.t = 0
  · rw [if_pos hc]
    obtain ⟨n0, m0, hN, hnm, v1, v2, _, r2, r3, _⟩ := okD_rai h hc.1
    obtain ⟨h1, h2, h3, h4, _⟩ := h
    obtain ⟨g1, g2, g3, g4, g5, g6, g7⟩ := hN
    have hge := stepM_ge (m := m0) (v := d.v) g2
    have hle : stepM m0 d.v ≤ 1000 := by rw [stepM_eq g2]; split <;> omega
    have e : goodT d.t = (d.t.put d.t.r { (d.t.at d.t.r) with good := true, tries := 0 }).put (!d.t.r) noSl := by unfold goodT; rw [if_neg (good_zero hc.2)]
    refine ⟨h1, h2, ok_good h3, h4.good, n0, stepM m0 d.v, g1, hge.1, hle, r2, r3, ?_, ?_⟩
    · show ∀ i, ((goodT d.t).at i).full = true → ((goodT d.t).at i).s.nm = n0 ∧ sgE ((goodT d.t).at i).s = 0
      rw [e]
      intro i hi
      rw [at_put, at_put] at hi ⊢
      by_cases c1 : i = !d.t.r
      · rw [if_pos c1] at hi; cases hi
      · have c2 : i = d.t.r := by revert c1; cases i <;> cases d.t.r <;> simp
        rw [if_neg c1, if_pos c2]
        exact g6 _ h3.run
    · intro _
      show d.nm = ((goodT d.t).at (goodT d.t).r).s.nm ∧ d.v = ((goodT d.t).at (goodT d.t).r).s.v ∧ d.cd = ((goodT d.t).at (goodT d.t).r).s.cd
      rw [e, put_r, put_r, at_put, if_neg (by cases d.t.r <;> decide), at_put, if_pos rfl]
      exact g7 hc.1
  · rw [if_neg hc]; exact h
end
end Go.Proofs.YtojdaifnljghkabGreatDoor.M
