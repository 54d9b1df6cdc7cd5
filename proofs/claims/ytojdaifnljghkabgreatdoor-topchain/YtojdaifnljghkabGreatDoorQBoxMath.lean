/-
  Plain mathematics on boxes: a secret closed, a box opened, what is wrong with either; it opens where it was closed, and just its secret comes out.
-/
import Derived.Test.YtojdaifnljghkabGreatDoorPack2
namespace Go.Proofs.YtojdaifnljghkabGreatDoor.M

/-- The lid of a bank, and what a secret is hidden by. -/
def lidV (xs : List Int) (m : Int) : Int := stp 7919 (digV xs m) 1
def padV (xs : List Int) (m : Int) : Int := stp 7919 (digV xs m) 2
theorem lidV_m (xs : List Int) (m : Int) : isM (lidV xs m) = true := isM_iff.2 ⟨stp_ge _ _ _, stp_lt _ _ _⟩
theorem padV_r (xs : List Int) (m : Int) : 0 ≤ padV xs m ∧ padV xs m < 1000003 := ⟨stp_ge _ _ _, stp_lt _ _ _⟩
theorem digV_m (xs : List Int) (m : Int) : isM (digV xs m) = true := isM_iff.2 (dig_range xs m)
/-- A secret closed: what is wrong, and the box. -/
def clsE (s m : Int) (xs : List Int) : Int := if isM s = true then digE xs m else 1
def clsV (s m : Int) (xs : List Int) : Int × Int × Int := if clsE s m xs = 0 then (m, lidV xs m, (s + padV xs m) % 1000003) else (0, 0, 0)
theorem clsE_no {s m : Int} {xs : List Int} (h : isM s = false) : clsE s m xs = 1 := by unfold clsE; rw [h]; rfl
theorem clsE_ok {s m : Int} {xs : List Int} (h : isM s = true) : clsE s m xs = digE xs m := if_pos h
theorem clsV_ok {s m : Int} {xs : List Int} (h : clsE s m xs = 0) : clsV s m xs = (m, lidV xs m, (s + padV xs m) % 1000003) := if_pos h
theorem clsV_no {s m : Int} {xs : List Int} (h : ¬ clsE s m xs = 0) : clsV s m xs = (0, 0, 0) := if_neg h
theorem digE_is (xs : List Int) (m : Int) : digE xs m = 0 ∨ digE xs m = 1 := by unfold digE; split <;> simp
theorem digE_zero {xs : List Int} {m : Int} (h : digE xs m = 0) : okAll xs = true ∧ isMask m = true := by
  unfold digE at h
  split at h
  · assumption
  · cases h
theorem clsE_zero {s m : Int} {xs : List Int} (h : clsE s m xs = 0) : isM s = true ∧ digE xs m = 0 := by
  cases hs : isM s with
  | false => rw [clsE_no hs] at h; cases h
  | true => exact ⟨rfl, (clsE_ok hs).symm.trans h⟩
theorem clsE_is (s m : Int) (xs : List Int) : clsE s m xs = 0 ∨ clsE s m xs = 1 := by
  cases hs : isM s with
  | false => exact Or.inr (clsE_no hs)
  | true => rw [clsE_ok hs]; exact digE_is xs m
/-- A box opened: what is wrong, and the secret. -/
def opnE (x : Int × Int × Int) (xs : List Int) : Int := if both x.2.1 x.2.2 = true then (if digE xs x.1 = 0 then (if lidV xs x.1 = x.2.1 then 0 else 8) else 1) else 1
def opnV (x : Int × Int × Int) (xs : List Int) : Int := if opnE x xs = 0 then (x.2.2 - padV xs x.1 + 1000003) % 1000003 else 0
section
variable {x : Int × Int × Int} {xs : List Int}
theorem opnE_form (h : both x.2.1 x.2.2 = false) : opnE x xs = 1 := by unfold opnE; rw [h]; rfl
theorem opnE_dig (h : both x.2.1 x.2.2 = true) (h2 : ¬ digE xs x.1 = 0) : opnE x xs = 1 := by unfold opnE; rw [if_pos h, if_neg h2]
theorem opnE_lid (h : both x.2.1 x.2.2 = true) (h2 : digE xs x.1 = 0) (h3 : ¬ lidV xs x.1 = x.2.1) : opnE x xs = 8 := by unfold opnE; rw [if_pos h, if_pos h2, if_neg h3]
theorem opnE_ok (h : both x.2.1 x.2.2 = true) (h2 : digE xs x.1 = 0) (h3 : lidV xs x.1 = x.2.1) : opnE x xs = 0 := by unfold opnE; rw [if_pos h, if_pos h2, if_pos h3]
theorem opnV_ok (h : opnE x xs = 0) : opnV x xs = (x.2.2 - padV xs x.1 + 1000003) % 1000003 := if_pos h
theorem opnV_no (h : ¬ opnE x xs = 0) : opnV x xs = 0 := if_neg h
end
theorem back {s p : Int} (hs : 0 ≤ s) (hs' : s < 1000003) : ((s + p) % 1000003 - p + 1000003) % 1000003 = s := by
  have e : (s + p) % 1000003 - p + 1000003 = s + 1000003 * (1 - (s + p) / 1000003) := by
    have := Int.emod_add_mul_ediv (s + p) 1000003
    rw [Int.mul_sub]
    omega
  rw [e, Int.add_mul_emod_self_left]
  exact Int.emod_eq_of_lt hs hs'
theorem cls_both {s m : Int} {xs : List Int} (h : clsE s m xs = 0) : both (clsV s m xs).2.1 (clsV s m xs).2.2 = true := by
  rw [clsV_ok h]
  exact both_iff.2 ⟨lidV_m _ _, isM_iff.2 ⟨Int.emod_nonneg _ (by omega), Int.emod_lt_of_pos _ (by omega)⟩⟩
/-- It opens where the digest is as it was, and there just its secret comes out. -/
theorem opn_cls {s m : Int} {xs ys : List Int} (h : clsE s m xs = 0) (hd : digE ys m = 0) (he : digV ys m = digV xs m) : opnE (clsV s m xs) ys = 0 ∧ opnV (clsV s m xs) ys = s := by
  have hb := cls_both h
  obtain ⟨hs, _⟩ := clsE_zero h
  have hr := isM_iff.1 hs
  have e0 : opnE (clsV s m xs) ys = 0 := by
    refine opnE_ok hb ?_ ?_
    · rw [clsV_ok h]; exact hd
    · rw [clsV_ok h]; unfold lidV; rw [he]
  refine ⟨e0, ?_⟩
  rw [opnV_ok e0, clsV_ok h]
  have : padV ys m = padV xs m := by unfold padV; rw [he]
  simp only []
  rw [this]
  exact back hr.1 hr.2
/-- Where the digest is another one it stays closed. -/
theorem opn_else {s m : Int} {xs ys : List Int} (h : clsE s m xs = 0) (hd : digE ys m = 0) (he : ¬ digV ys m = digV xs m) : opnE (clsV s m xs) ys = 8 := by
  have hb := cls_both h
  refine opnE_lid hb ?_ ?_
  · rw [clsV_ok h]; exact hd
  · rw [clsV_ok h]
    intro hl
    have r1 := dig_range ys m
    have r2 := dig_range xs m
    exact he (stp_left r1.1 r1.2 r2.1 r2.2 hl)
theorem opn_ext {s m i k : Int} {xs : List Int} (hl : xs.length = 8) (h : clsE s m xs = 0) (ho : extOk xs i k = true) :
    opnE (clsV s m xs) (extV xs i k) = (if differ xs (extV xs i k) m = true then 8 else 0) := by
  obtain ⟨_, hd⟩ := clsE_zero h
  obtain ⟨h1, hm⟩ := digE_zero hd
  have ha := extV_all ho
  have hd2 := digE_ok ha hm
  have hx := dig_ext (mask := m) hl ho hm
  cases hdf : differ xs (extV xs i k) m with
  | false =>
    rw [hdf] at hx
    rw [(opn_cls h hd2 (of_decide_eq_true hx)).1]
    rfl
  | true =>
    rw [hdf] at hx
    rw [opn_else h hd2 (of_decide_eq_false hx)]
    rfl
end Go.Proofs.YtojdaifnljghkabGreatDoor.M
