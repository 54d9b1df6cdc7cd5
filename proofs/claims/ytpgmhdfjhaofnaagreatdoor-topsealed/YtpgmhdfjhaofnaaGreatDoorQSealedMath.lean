/-
  Plain mathematics on a device that starts a first image, is updated, and starts again; on a box that is closed by what was started, and opened by what was started then.
-/
import Derived.Test.YtpgmhdfjhaofnaaGreatDoorQDeviceMath
import Derived.Test.YtpgmhdfjhaofnaaGreatDoorPack2
namespace Go.Proofs.YtpgmhdfjhaofnaaGreatDoor.M
set_option linter.unusedVariables false

theorem one_bank (m : Int) : repV [(0, m)] = [stp 7919 0 m, 0, 0, 0, 0, 0, 0, 0] := rfl
theorem one_len (m : Int) : (repV [(0, m)]).length = 8 := rfl
theorem one_dig (m : Int) : digV (repV [(0, m)]) 1 = allFrom 0 [stp 7919 0 m] := by
  rw [digV_ok (repV_ok _) (by decide), one_bank]
  have e : askedL 1 8 = [0] := by decide
  rw [e]
  rfl
theorem one_same (m n : Int) : sameE (repV [(0, m)]) (repV [(0, n)]) 1 = 0 ∧ sameV (repV [(0, m)]) (repV [(0, n)]) 1 = decide (stp 7919 0 m = stp 7919 0 n) := by
  have hc : okAll (repV [(0, m)]) = true ∧ okAll (repV [(0, n)]) = true ∧ isMask 1 = true := ⟨repV_ok _, repV_ok _, by decide⟩
  refine ⟨if_pos hc, ?_⟩
  unfold sameV
  rw [if_pos hc]
  unfold differ
  have e : askedL 1 8 = [0] := by decide
  rw [e, one_bank, one_bank]
  by_cases h : stp 7919 0 m = stp 7919 0 n <;> simp [h]
theorem stp_m (a b : Int) : isM (stp 7919 a b) = true := isM_iff.2 ⟨stp_ge _ _ _, stp_lt _ _ _⟩
/-- It opens just where what was started comes to the same bank. -/
theorem sea_open {s m n : Int} (h : clsE s 1 (repV [(0, m)]) = 0) :
    (sameV (repV [(0, n)]) (repV [(0, m)]) 1 = true ∧ opnE (clsV s 1 (repV [(0, m)])) (repV [(0, n)]) = 0 ∧ opnV (clsV s 1 (repV [(0, m)])) (repV [(0, n)]) = s) ∨
    (sameV (repV [(0, n)]) (repV [(0, m)]) 1 = false ∧ opnE (clsV s 1 (repV [(0, m)])) (repV [(0, n)]) = 8) := by
  have hd : digE (repV [(0, n)]) 1 = 0 := digE_ok (repV_ok _) (by decide)
  rw [(one_same n m).2]
  by_cases he : stp 7919 0 n = stp 7919 0 m
  · have e : digV (repV [(0, n)]) 1 = digV (repV [(0, m)]) 1 := by rw [one_dig, one_dig, he]
    obtain ⟨o1, o2⟩ := opn_cls h hd e
    exact Or.inl ⟨decide_eq_true he, o1, o2⟩
  · have e : ¬ digV (repV [(0, n)]) 1 = digV (repV [(0, m)]) 1 := by
      rw [one_dig, one_dig]
      intro hc
      exact he (allFrom_mid (p := []) (q := []) (stp_m _ _) (stp_m _ _) hc)
    exact Or.inr ⟨decide_eq_false he, opn_else h hd e⟩
theorem sea_cls {s m : Int} (h : isM s = true) : clsE s 1 (repV [(0, m)]) = 0 := by rw [clsE_ok h]; exact digE_ok (repV_ok _) (by decide)
theorem sea_ev (m : Int) (h : isM m = true) : evE [(0, m)] = 0 := by
  refine evE_ok (by show ¬ 30 < 1; omega) ?_
  show (evOk (0, m) && true) = true
  rw [Bool.and_true, evOk_iff]
  exact ⟨(show isReg 0 = true by decide), h⟩
section
variable {d : DS}
/-- What is told of what runs, by a key that is one. -/
theorem tel_ok {k n : Int} (hon : d.on = true) (hx : secB d.x = true) (hk : secB k = true) (hn : isM n = true) : telD d k n 1 = 0 ∧ telL d k n 1 = [(0, meaV d.nm d.v d.cd)] := by
  have h1 : telD d k n 1 = 0 := by
    unfold telD
    rw [if_pos hon, quoE_go hn (digE_ok (repV_ok _) (by decide))]
    exact sigC_ok hx hk (quoM_m _ _ _)
  exact ⟨h1, if_pos h1⟩
end
/-- The device behind its first start. -/
def onD (q x : Int) (s : Sg) : DS := ⟨q, x, fun _ => 0, 0, newT s, true, s.nm, s.v, s.cd⟩
section
variable {x k v1 v2 : Int} {n1 c1 n2 c2 : ByteArray}
theorem sea_new (h1 : sgnE x k n1 v1 c1 = 0) : dvcE (pwZ 64 x) x (sgO x k n1 v1 c1) = 0 := by
  obtain ⟨i1, g1⟩ := sgnE_zero h1
  obtain ⟨hx, hk, hm⟩ := sigC_zero g1
  rw [dvcE_img (by rw [pwZ_in x, hx]; rfl)]
  exact i1
theorem sea_sta (q : Int) (s : Sg) : staD (newD q x s) = onD q x s ∧ trialD (newD q x s) = false := ⟨rfl, rfl⟩
theorem sea_upd (q : Int) (s t : Sg) : upeD (onD q x s) [] t = doE q [] (fun _ => 0) (newT s) t ∧ updD (onD q x s) [] t = { onD q x s with t := doT q [] (fun _ => 0) (newT s) t } := ⟨rfl, rfl⟩
theorem sea_last (x : Int) : lastC (pwZ 64 x) [] = 0 ∧ lastV (pwZ 64 x) [] = pwZ 64 x := by
  rw [(lastV_nil _).1, (lastV_nil _).2, if_pos (pwZ_in x), if_pos (pwZ_in x)]
  exact ⟨rfl, rfl⟩
theorem sea_own (h2 : sgnE x k n2 v2 c2 = 0) : sldS (lastV (pwZ 64 x) []) (sgO x k n2 v2 c2) = 0 := by rw [(sea_last x).2]; exact own_sld h2
/-- Of another name: nothing is put. -/
theorem sea_name (h1 : sgnE x k n1 v1 c1 = 0) (h2 : sgnE x k n2 v2 c2 = 0) (hn : ¬ newE n2 v2 c2 n1 v1 c1 = 0) :
    newE n2 v2 c2 n1 v1 c1 = 3 ∧ upeD (onD (pwZ 64 x) x (sgO x k n1 v1 c1)) [] (sgO x k n2 v2 c2) = 3 ∧ trialD (updD (onD (pwZ 64 x) x (sgO x k n1 v1 c1)) [] (sgO x k n2 v2 c2)) = false := by
  have i1 := (sgnE_zero h1).1
  have i2 := (sgnE_zero h2).1
  have e3 : newE n2 v2 c2 n1 v1 c1 = 3 := by
    by_cases hq : n2 = n1
    · exact absurd (newE_ok i2 i1 hq) hn
    · exact newE_name i2 i1 hq
  have hu : updE (pwZ 64 x) [] (fun _ => 0) (safeS (newT (sgO x k n1 v1 c1))) (sgO x k n2 v2 c2) = 3 := (upd_new (sea_last x).1 (sea_own h2) (by show ¬ newE n2 v2 c2 n1 v1 c1 = 0; exact hn)).trans e3
  have hd := do_no (root := pwZ 64 x) (l := []) (f := fun _ => 0) (t := newT (sgO x k n1 v1 c1)) (next := sgO x k n2 v2 c2) (by rw [hu]; decide)
  rw [(sea_upd _ _ _).1, (sea_upd _ _ _).2, hd.1, hd.2]
  exact ⟨e3, hu, rfl⟩
/-- Of the same name, and not newer: nothing is put; the first runs on. -/
theorem sea_old (h1 : sgnE x k n1 v1 c1 = 0) (h2 : sgnE x k n2 v2 c2 = 0) (hn : newE n2 v2 c2 n1 v1 c1 = 0) (hv : ¬ v1 < v2) :
    upeD (onD (pwZ 64 x) x (sgO x k n1 v1 c1)) [] (sgO x k n2 v2 c2) = 9 ∧ updD (onD (pwZ 64 x) x (sgO x k n1 v1 c1)) [] (sgO x k n2 v2 c2) = onD (pwZ 64 x) x (sgO x k n1 v1 c1) := by
  have hu : updE (pwZ 64 x) [] (fun _ => 0) (safeS (newT (sgO x k n1 v1 c1))) (sgO x k n2 v2 c2) = 9 := upd_old (sea_last x).1 (sea_own h2) (by show newE n2 v2 c2 n1 v1 c1 = 0; exact hn) (by show ¬ v1 < v2; exact hv)
  have hd := do_no (root := pwZ 64 x) (l := []) (f := fun _ => 0) (t := newT (sgO x k n1 v1 c1)) (next := sgO x k n2 v2 c2) (by rw [hu]; decide)
  rw [(sea_upd _ _ _).1, (sea_upd _ _ _).2, hd.1, hd.2]
  exact ⟨hu, rfl⟩
theorem sea_on (q : Int) (s : Sg) : trialD (onD q x s) = false ∧ staD (onD q x s) = onD q x s := ⟨rfl, rfl⟩
/-- The device with another one on trial. -/
def trD (q x : Int) (s t : Sg) : DS := ⟨q, x, fun _ => 0, 0, upT s t, true, t.nm, t.v, t.cd⟩
/-- Newer: it is put, and on trial. -/
theorem sea_newer (h1 : sgnE x k n1 v1 c1 = 0) (h2 : sgnE x k n2 v2 c2 = 0) (hn : newE n2 v2 c2 n1 v1 c1 = 0) (hv : v1 < v2) :
    upeD (onD (pwZ 64 x) x (sgO x k n1 v1 c1)) [] (sgO x k n2 v2 c2) = 0 ∧ trialD (updD (onD (pwZ 64 x) x (sgO x k n1 v1 c1)) [] (sgO x k n2 v2 c2)) = true ∧
      staD (updD (onD (pwZ 64 x) x (sgO x k n1 v1 c1)) [] (sgO x k n2 v2 c2)) = trD (pwZ 64 x) x (sgO x k n1 v1 c1) (sgO x k n2 v2 c2) := by
  obtain ⟨m1, m2, m3⟩ := img_name (sgnE_zero h2).1
  have hm : mayE (fun _ => 0) n2 v2 = 0 := by
    unfold mayE
    rw [if_pos m1, if_pos ⟨m2, m3⟩, if_neg (show ¬ v2 < 0 by omega)]
  have hu : updE (pwZ 64 x) [] (fun _ => 0) (sgO x k n1 v1 c1) (sgO x k n2 v2 c2) = 0 := (upd_may (sea_last x).1 (sea_own h2) (by show newE n2 v2 c2 n1 v1 c1 = 0; exact hn) (by show v1 < v2; exact hv)).trans hm
  obtain ⟨f1, f2⟩ := first_do hu
  rw [(sea_upd _ _ _).1, (sea_upd _ _ _).2, f1, f2]
  exact ⟨rfl, rfl, rfl⟩
theorem sea_tr (q : Int) (s t : Sg) : trialD (staD (staD (trD q x s t))) = false ∧ (staD (staD (staD (trD q x s t)))).on = true ∧ (staD (staD (staD (trD q x s t)))).nm = s.nm ∧ (staD (staD (staD (trD q x s t)))).v = s.v ∧ (staD (staD (staD (trD q x s t)))).cd = s.cd := ⟨rfl, rfl, rfl, rfl, rfl⟩
end
end Go.Proofs.YtpgmhdfjhaofnaaGreatDoor.M
