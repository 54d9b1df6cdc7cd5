/-
  Plain mathematics on updates: whether one may be done, and what doing it makes of two slots; what may be put is newer, right by the last key, and not below what was; and the same is not newer.
-/
import Derived.Test.YtojdaifnljghkabDoorQCertMath
import Derived.Test.YtojdaifnljghkabDoorQSignMath
import Derived.Test.YtojdaifnljghkabDoorQCntMath
import Derived.Test.YtojdaifnljghkabDoorQSlotMath
namespace Go.Proofs.YtojdaifnljghkabDoor.M

def sldS (q : Int) (s : Sg) : Int := sldE q s.nm s.v s.cd s.p s.a
def newS (s t : Sg) : Int := newE s.nm s.v s.cd t.nm t.v t.cd
/-- May an update be done? -/
def updE (root : Int) (l : List (Int × Int × Int)) (f : ByteArray → Int) (now next : Sg) : Int :=
  if lastC root l = 0 then (if sldS (lastV root l) next = 0 then (if newS next now = 0 then (if now.v < next.v then mayE f next.nm next.v else 9) else newS next now) else sldS (lastV root l) next) else lastC root l
def safeS (t : St) : Sg := (t.at (safeT t)).s
def doE (root : Int) (l : List (Int × Int × Int)) (f : ByteArray → Int) (t : St) (next : Sg) : Int := if updE root l f (safeS t) next = 0 then putE t next else updE root l f (safeS t) next
def doT (root : Int) (l : List (Int × Int × Int)) (f : ByteArray → Int) (t : St) (next : Sg) : St := if updE root l f (safeS t) next = 0 then putT t next else t
section
variable {root : Int} {l : List (Int × Int × Int)} {f : ByteArray → Int} {now next s : Sg} {t : St} {q : Int}
theorem upd_last (h : ¬ lastC root l = 0) : updE root l f now next = lastC root l := if_neg h
theorem upd_sld (h : lastC root l = 0) (h2 : ¬ sldS (lastV root l) next = 0) : updE root l f now next = sldS (lastV root l) next := by unfold updE; rw [if_pos h, if_neg h2]
theorem upd_new (h : lastC root l = 0) (h2 : sldS (lastV root l) next = 0) (h3 : ¬ newS next now = 0) : updE root l f now next = newS next now := by unfold updE; rw [if_pos h, if_pos h2, if_neg h3]
theorem upd_old (h : lastC root l = 0) (h2 : sldS (lastV root l) next = 0) (h3 : newS next now = 0) (h4 : ¬ now.v < next.v) : updE root l f now next = 9 := by unfold updE; rw [if_pos h, if_pos h2, if_pos h3, if_neg h4]
theorem upd_may (h : lastC root l = 0) (h2 : sldS (lastV root l) next = 0) (h3 : newS next now = 0) (h4 : now.v < next.v) : updE root l f now next = mayE f next.nm next.v := by unfold updE; rw [if_pos h, if_pos h2, if_pos h3, if_pos h4]
theorem sld_img (h : sldS q s = 0) : sgE s = 0 := by
  by_cases h0 : imgE s.nm s.v s.cd = 0
  · exact h0
  · unfold sldS at h; rw [sldE_img h0] at h; exact absurd h h0
theorem upd_zero (h : updE root l f now next = 0) : lastC root l = 0 ∧ sldS (lastV root l) next = 0 ∧ newS next now = 0 ∧ now.v < next.v ∧ mayE f next.nm next.v = 0 := by
  by_cases h1 : lastC root l = 0
  · by_cases h2 : sldS (lastV root l) next = 0
    · by_cases h3 : newS next now = 0
      · by_cases h4 : now.v < next.v
        · rw [upd_may h1 h2 h3 h4] at h; exact ⟨h1, h2, h3, h4, h⟩
        · rw [upd_old h1 h2 h3 h4] at h; cases h
      · rw [upd_new h1 h2 h3] at h; exact absurd h h3
    · rw [upd_sld h1 h2] at h; exact absurd h h2
  · rw [upd_last h1] at h; exact absurd h h1
/-- What the reference asks of two images, once the one is right. -/
theorem new_img (h : sgE next = 0) (h2 : ¬ sgE now = 0) : newS next now = sgE now := by
  unfold newS newE; unfold sgE at h h2 ⊢; rw [if_pos h, if_neg h2]
theorem new_name (h : sgE next = 0) (h2 : sgE now = 0) (h3 : ¬ next.nm = now.nm) : newS next now = 3 := by
  unfold newS newE; unfold sgE at h h2; rw [if_pos h, if_pos h2, if_neg h3]
theorem new_ok (h : sgE next = 0) (h2 : sgE now = 0) (h3 : next.nm = now.nm) : newS next now = 0 := by
  unfold newS newE; unfold sgE at h h2; rw [if_pos h, if_pos h2, if_pos h3]
theorem new_zero (h : newS next now = 0) : sgE next = 0 ∧ sgE now = 0 ∧ next.nm = now.nm := by
  by_cases h1 : sgE next = 0
  · by_cases h2 : sgE now = 0
    · by_cases h3 : next.nm = now.nm
      · exact ⟨h1, h2, h3⟩
      · rw [new_name h1 h2 h3] at h; cases h
    · rw [new_img h1 h2] at h; exact absurd h h2
  · unfold newS newE at h; unfold sgE at h1; rw [if_neg h1] at h; exact absurd h h1
/-- The same is not newer. -/
theorem upd_same (h : lastC root l = 0) (h2 : sldS (lastV root l) s = 0) : updE root l f s s = 9 :=
  upd_old h h2 (new_ok (sld_img h2) (sld_img h2) rfl) (by omega)
theorem do_no (h : ¬ updE root l f (safeS t) next = 0) : doE root l f t next = updE root l f (safeS t) next ∧ doT root l f t next = t := ⟨if_neg h, if_neg h⟩
theorem do_ok (h : updE root l f (safeS t) next = 0) : doE root l f t next = putE t next ∧ doT root l f t next = putT t next := ⟨if_pos h, if_pos h⟩
theorem may_zero {nm : ByteArray} {v : Int} (h : mayE f nm v = 0) : nameB nm = true ∧ 1 ≤ v ∧ v ≤ 1000 ∧ f nm ≤ v := by
  unfold mayE at h
  by_cases h1 : nameB nm = true
  · rw [if_pos h1] at h
    by_cases h2 : 1 ≤ v ∧ v ≤ 1000
    · rw [if_pos h2] at h
      by_cases h3 : v < f nm
      · rw [if_pos h3] at h; cases h
      · exact ⟨h1, h2.1, h2.2, by omega⟩
    · rw [if_neg h2] at h; cases h
  · rw [if_neg h1] at h; cases h
/-- An update of a first image, started, and good; and once more. -/
def onT (now next : Sg) : St := ⟨⟨now, true, 0, true⟩, ⟨next, true, 3, false⟩, false⟩
def upT (now next : Sg) : St := ⟨⟨now, true, 0, true⟩, ⟨next, true, 2, false⟩, true⟩
def inT (next : Sg) : St := ⟨noSl, ⟨next, true, 0, true⟩, true⟩
theorem first_do (h : updE root l f now next = 0) : doE root l f (newT now) next = 0 ∧ doT root l f (newT now) next = onT now next := by
  have h1 : updE root l f (safeS (newT now)) next = 0 := h
  have h2 := sld_img (upd_zero h).2.1
  have h3 : putE (newT now) next = 0 := by unfold putE; rw [if_pos h2]; rfl
  rw [(do_ok h1).1, (do_ok h1).2]
  exact ⟨h3, by unfold putT; rw [if_pos h3]; rfl⟩
theorem first_start : pickT (onT now next) = true ∧ startT (onT now next) = upT now next := ⟨by rfl, by rfl⟩
theorem first_good : goodE (upT now next) = 0 ∧ goodT (upT now next) = inT next := ⟨by rfl, by rfl⟩
theorem first_again (h : updE root l f now next = 0) : doE root l f (inT next) next = 9 := by
  obtain ⟨h1, h2, _⟩ := upd_zero h
  have h3 : updE root l f (safeS (inT next)) next = 9 := upd_same h1 h2
  rw [(do_no (by rw [h3]; decide)).1, h3]
/-- Two that one signed, the second newer. -/
def sgO (x k : Int) (nm : ByteArray) (v : Int) (cd : ByteArray) : Sg := ⟨nm, v, cd, sigP x k (meaV nm v cd), sigA x k (meaV nm v cd)⟩
theorem own_sld {x k v : Int} {nm cd : ByteArray} (h : sgnE x k nm v cd = 0) : sldS (pwZ 64 x) (sgO x k nm v cd) = 0 := sld_own h
end
end Go.Proofs.YtojdaifnljghkabDoor.M
