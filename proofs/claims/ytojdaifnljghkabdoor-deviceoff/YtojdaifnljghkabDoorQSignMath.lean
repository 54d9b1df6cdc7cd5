/-
  Plain mathematics on signed images: what is wrong with one that is made, and with one that is checked; that what is signed is right by its key, and with no other answer.
-/
import Derived.Test.YtojdaifnljghkabDoorQCertMath
import Derived.Test.YtojdaifnljghkabDoorPack1
namespace Go.Proofs.YtojdaifnljghkabDoor.M

theorem mea_is (nm : ByteArray) (v : Int) (cd : ByteArray) : isM (meaV nm v cd) = true := by
  rw [isM_iff]
  unfold meaV
  split
  · exact ofFrom_range 1 _ (by omega) (by omega)
  · omega
/-- A signed image that is made: what is wrong, and its seal. -/
def sgnE (x k : Int) (nm : ByteArray) (v : Int) (cd : ByteArray) : Int := if imgE nm v cd = 0 then sigC x k (meaV nm v cd) else imgE nm v cd
/-- A signed image that is checked: what is wrong. -/
def sldE (q : Int) (nm : ByteArray) (v : Int) (cd : ByteArray) (p a : Int) : Int := if imgE nm v cd = 0 then rigC q (meaV nm v cd) p a else imgE nm v cd
section
variable {x k q p a v : Int} {nm cd : ByteArray}
theorem sgnE_img (h : ¬ imgE nm v cd = 0) : sgnE x k nm v cd = imgE nm v cd := if_neg h
theorem sgnE_ok (h : imgE nm v cd = 0) : sgnE x k nm v cd = sigC x k (meaV nm v cd) := if_pos h
theorem sgnE_zero (h : sgnE x k nm v cd = 0) : imgE nm v cd = 0 ∧ sigC x k (meaV nm v cd) = 0 := by
  by_cases hE : imgE nm v cd = 0
  · exact ⟨hE, (sgnE_ok hE).symm.trans h⟩
  · exact absurd ((sgnE_img hE).symm.trans h) hE
theorem sldE_img (h : ¬ imgE nm v cd = 0) : sldE q nm v cd p a = imgE nm v cd := if_neg h
theorem sldE_ok (h : imgE nm v cd = 0) : sldE q nm v cd p a = rigC q (meaV nm v cd) p a := if_pos h
theorem sigC_meas {m m' : Int} (h : isM m = true) (h' : isM m' = true) : sigC x k m = sigC x k m' := by
  unfold sigC
  rw [h, h']
/-- What is signed is right by its key; with another answer it is not. -/
theorem sld_own (h : sgnE x k nm v cd = 0) : sldE (pwZ 64 x) nm v cd (sigP x k (meaV nm v cd)) (sigA x k (meaV nm v cd)) = 0 := by
  obtain ⟨h1, h2⟩ := sgnE_zero h
  obtain ⟨hx, hk, hm⟩ := sigC_zero h2
  rw [sldE_ok h1, rig_own hx hk hm]
theorem sld_range {other : Int} (h : sgnE x k nm v cd = 0) (ho : ansB other = false) : sldE (pwZ 64 x) nm v cd (sigP x k (meaV nm v cd)) other = 1 := by
  obtain ⟨h1, h2⟩ := sgnE_zero h
  rw [sldE_ok h1, rigC_no (form_no (Or.inr (Or.inr (Or.inr ho))))]
theorem sld_other {other : Int} (h : sgnE x k nm v cd = 0) (ho : ansB other = true) (hne : ¬ other = sigA x k (meaV nm v cd)) : sldE (pwZ 64 x) nm v cd (sigP x k (meaV nm v cd)) other = 8 := by
  obtain ⟨h1, h2⟩ := sgnE_zero h
  obtain ⟨hx, hk, hm⟩ := sigC_zero h2
  rw [sldE_ok h1, sigP_ok hx hk hm]
  exact rigC_else (formB_iff.2 ⟨pwZ_in x, pwZ_in k, hm, ho⟩) (by rw [says_own hx hk hm ho]; exact decide_eq_false hne)
/-- An image that nobody signed is not right. -/
theorem sld_none : ¬ sldE q nm v cd 0 0 = 0 := by
  intro h
  by_cases hE : imgE nm v cd = 0
  · rw [sldE_ok hE, rigC_no (form_no (Or.inr (Or.inl rfl)))] at h
    cases h
  · exact hE ((sldE_img hE).symm.trans h)
end
end Go.Proofs.YtojdaifnljghkabDoor.M
