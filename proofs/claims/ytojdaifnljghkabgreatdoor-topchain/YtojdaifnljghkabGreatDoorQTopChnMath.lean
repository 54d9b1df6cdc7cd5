/-
  Plain mathematics on a device that is updated, started and good, again and again: it takes just what is newer than what was good.
-/
import Derived.Test.YtojdaifnljghkabGreatDoorQNeverMath
import Derived.Test.YtojdaifnljghkabGreatDoorQChainMath
namespace Go.Proofs.YtojdaifnljghkabGreatDoor.M
set_option linter.unusedVariables false

/-- What runs is good, of the version g; nothing waits. -/
def InvC (R x : Int) (n0 : ByteArray) (g : Int) (d : DS) : Prop := d.root = R ∧ d.x = x ∧ VerD n0 g d ∧ (d.t.at d.t.r).good = true ∧ (d.t.at (!d.t.r)).full = false ∧ d.f n0 ≤ g
section
variable {R x g : Int} {s : Sg} {d : DS} {l : List (Int × Int × Int)} {n0 : ByteArray}
theorem chn_new (h : sgE s = 0) : InvC R x s.nm s.v (newD R x s) := by
  have := (img_name h).2.1
  exact ⟨rfl, rfl, ver_new, rfl, rfl, by show (0 : Int) ≤ s.v; omega⟩
theorem good_at {t : St} (h : (t.at (pickT t)).good = true) : ((startT t).at (startT t).r).good = true := by
  rw [start_r]
  unfold startT
  rw [at_put, if_pos rfl]
  unfold lessL
  rw [if_pos h]
  exact h
theorem good_less (l : Sl) : (lessL l).good = l.good := by unfold lessL; split <;> rfl
theorem start_good (t : St) : ((startT t).at (startT t).r).good = (t.at (pickT t)).good := by
  rw [start_r]
  unfold startT
  rw [at_put, if_pos rfl, good_less]
theorem chn_base (ho : OkD d) (h : InvC R x n0 g d) (hs : sgE s = 0) (hnm : s.nm = n0) : newS s (safeS d.t) = 0 ∧ (safeS d.t).v = g := by
  obtain ⟨_, _, ⟨h1, h2, _⟩, _⟩ := h
  obtain ⟨_, _, ho3, _, n1, m1, _, _, _, _, _, g6, _⟩ := ho
  exact ⟨new_ok hs (g6 _ ho3.full).2 (hnm.trans h2.symm), h1⟩
theorem chn_no (ho : OkD d) (h : InvC R x n0 g d) (hl : lastC R l = 0) (hsl : sldS (lastV R l) s = 0) (hnm : s.nm = n0) (hv : ¬ g < s.v) :
    upeD d l s = 9 ∧ updD d l s = d ∧ trialD d = false ∧ InvC R x n0 g (staD d) ∧ (staD d).on = true ∧ (staD d).v = g := by
  obtain ⟨hb1, hb2⟩ := chn_base ho h (sld_img hsl) hnm
  have h' := h
  obtain ⟨e1, e2, hV, hgd, hfl, hf⟩ := h
  subst e1
  have hu : updE d.root l d.f (safeS d.t) s = 9 := upd_old hl hsl hb1 (by rw [hb2]; exact hv)
  have hd := do_no (root := d.root) (l := l) (f := d.f) (t := d.t) (next := s) (by rw [hu]; decide)
  have hs := safe_run hgd
  have hp : pickT d.t = d.t.r := by
    unfold pickT
    rw [hs, if_neg (by rw [hfl]; intro hc; cases hc.1)]
  refine ⟨hd.1.trans hu, ?_, ?_, ⟨rfl, e2, ver_sta ho hV, ?_, ?_, hf⟩, rfl, ?_⟩
  · show { d with t := doT d.root l d.f d.t s } = d
    rw [hd.2]
  · unfold trialD
    rw [hp, hgd]
    rfl
  · show ((startT d.t).at (startT d.t).r).good = true
    rw [start_good, hp]
    exact hgd
  · show ((startT d.t).at (!(startT d.t).r)).full = false
    rw [start_r, (start_at _ _).2, hp]
    exact hfl
  · show (d.t.at (pickT d.t)).s.v = g
    rw [hp, ← hs]
    exact hb2
theorem chn_yes (ho : OkD d) (h : InvC R x n0 g d) (hz : szS s) (hl : lastC R l = 0) (hsl : sldS (lastV R l) s = 0) (hnm : s.nm = n0) (hv : g < s.v) :
    upeD d l s = 0 ∧ trialD (updD d l s) = true ∧ gooE (staD (updD d l s)) = 0 ∧ InvC R x n0 s.v (gooD (staD (updD d l s))) ∧ (gooD (staD (updD d l s))).on = true ∧ (gooD (staD (updD d l s))).v = s.v := by
  have hsg := sld_img hsl
  obtain ⟨hb1, hb2⟩ := chn_base ho h hsg hnm
  have hoU : OkD (updD d l s) := okD_upd ho hz
  have hoS : OkD (staD (updD d l s)) := okD_sta hoU
  obtain ⟨e1, e2, hV, hgd, hfl, hf⟩ := h
  subst e1
  obtain ⟨m1, m2, m3⟩ := img_name hsg
  have hm : mayE d.f s.nm s.v = 0 := by
    unfold mayE
    rw [if_pos m1, if_pos ⟨m2, m3⟩, if_neg (by rw [hnm]; omega)]
  have hu : updE d.root l d.f (safeS d.t) s = 0 := (upd_may hl hsl hb1 (by rw [hb2]; exact hv)).trans hm
  have hp0 : putE d.t s = 0 := by unfold putE; rw [if_pos hsg, if_pos hgd]
  have hE : upeD d l s = 0 := (do_ok hu).1.trans hp0
  have hT : (updD d l s).t = d.t.put (!d.t.r) ⟨s, true, 3, false⟩ := by
    show doT d.root l d.f d.t s = _
    rw [(do_ok hu).2]
    unfold putT
    rw [if_pos hp0]
  have hVU : VerD n0 g (updD d l s) := ver_upd hV
  have hVS : VerD n0 g (staD (updD d l s)) := ver_sta hoU hVU
  have hrU : (updD d l s).t.r = d.t.r := by rw [hT, put_r]
  have hgU : ((updD d l s).t.at (updD d l s).t.r).good = true := by rw [hrU, hT, at_put, if_neg (bool_ne _)]; exact hgd
  have hsU := safe_run hgU
  have haU : (updD d l s).t.at (!d.t.r) = ⟨s, true, 3, false⟩ := by rw [hT, at_put, if_pos rfl]
  have hpU : pickT (updD d l s).t = !d.t.r := by
    unfold pickT
    rw [hsU, hrU, haU, if_pos ⟨rfl, rfl, (show (0 : Int) < 3 by decide)⟩]
  have htr : trialD (updD d l s) = true := by
    unfold trialD
    rw [hpU, haU]
    rfl
  have hvS : (staD (updD d l s)).v = s.v := by
    show ((updD d l s).t.at (pickT (updD d l s).t)).s.v = s.v
    rw [hpU, haU]
  have hgS : goodE (staD (updD d l s)).t = 0 := by
    show goodE (startT (updD d l s).t) = 0
    unfold goodE
    rw [start_good, hpU, haU]
    rfl
  have hc : (staD (updD d l s)).on = true ∧ goodE (staD (updD d l s)).t = 0 := ⟨rfl, hgS⟩
  have hVG := ver_goo hoS hVS hc
  rw [hvS] at hVG
  obtain ⟨u1, u2, u3, u4, u5, u6⟩ := gooD_run (d := staD (updD d l s))
  have hnS : (staD (updD d l s)).nm = n0 := (ver_on hoS hVS rfl).2.1
  have eg : gooD (staD (updD d l s)) = { staD (updD d l s) with t := goodT (staD (updD d l s)).t, f := raiF (staD (updD d l s)).f (staD (updD d l s)).k (staD (updD d l s)).nm (staD (updD d l s)).v, k := raiK (staD (updD d l s)).f (staD (updD d l s)).k (staD (updD d l s)).nm (staD (updD d l s)).v } := if_pos hc
  have egt : (gooD (staD (updD d l s))).t = goodT (staD (updD d l s)).t := by rw [eg]
  have egf : (gooD (staD (updD d l s))).f = raiF (staD (updD d l s)).f (staD (updD d l s)).k (staD (updD d l s)).nm (staD (updD d l s)).v := by rw [eg]
  generalize hS : (staD (updD d l s)).t = tS at *
  have e : goodT tS = (tS.put tS.r { (tS.at tS.r) with good := true, tries := 0 }).put (!tS.r) noSl := by unfold goodT; rw [if_neg (good_zero hgS)]
  have hr : (goodT tS).r = tS.r := by rw [e, put_r, put_r]
  refine ⟨hE, htr, gooE_zero.2 (by rw [hS]; exact hc), ⟨u6.trans rfl, u5.trans e2, hVG, ?_, ?_, ?_⟩, u1.trans rfl, u3.trans hvS⟩
  · rw [egt, hr, e, at_put, if_neg (bool_ne _), at_put, if_pos rfl]
  · rw [egt, hr, e, at_put, if_pos rfl]
    rfl
  · rw [egf, hnS, hvS]
    have hfS : (staD (updD d l s)).f n0 ≤ g := hf
    unfold raiF
    split
    · rw [updF_same]
      exact Int.le_refl _
    · omega
end
end Go.Proofs.YtojdaifnljghkabGreatDoor.M
