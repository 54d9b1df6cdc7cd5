/-
  Plain mathematics on digests: a step can be undone from either side; where one register alone that is asked for is another one, so is the digest; boxes: what a lid tells.
-/
import Derived.Test.YtojdaifnljghkabDoorPack1
import Derived.Test.YtojdaifnljghkabDoorQBank4
namespace Go.Proofs.YtojdaifnljghkabDoor.M

theorem cop : Nat.Coprime 1000003 7919 := by decide +kernel
theorem dvd_of (d : Int) (h : (1000003 : Int) ∣ 7919 * d) : (1000003 : Int) ∣ d := by
  have h1 := Int.natAbs_dvd_natAbs.2 h
  rw [Int.natAbs_mul] at h1
  have h2 : 1000003 ∣ d.natAbs := Nat.Coprime.dvd_of_dvd_mul_left cop h1
  exact Int.natAbs_dvd_natAbs.1 h2
theorem dvd_small (d : Int) (h : (1000003 : Int) ∣ d) (h1 : -1000003 < d) (h2 : d < 1000003) : d = 0 := by
  obtain ⟨t, ht⟩ := h
  omega
theorem mod_sub (a b n : Int) (h : (7919 * a + n + 1) % 1000003 = (7919 * b + n + 1) % 1000003) : (1000003 : Int) ∣ 7919 * (a - b) := by
  have h1 := Int.dvd_of_emod_eq_zero (Int.emod_eq_emod_iff_emod_sub_eq_zero.1 h)
  have e : 7919 * a + n + 1 - (7919 * b + n + 1) = 7919 * (a - b) := by clear h h1; omega
  rw [e] at h1
  exact h1
theorem stp_left {a b n : Int} (ha : 0 ≤ a) (ha' : a < 1000003) (hb : 0 ≤ b) (hb' : b < 1000003) (h : stp 7919 a n = stp 7919 b n) : a = b := by
  have h1 := dvd_small (a - b) (dvd_of _ (mod_sub a b n h)) (by omega) (by omega)
  clear h
  omega
theorem allFrom_left : ∀ (xs : List Int) (a b : Int), 0 ≤ a → a < 1000003 → 0 ≤ b → b < 1000003 → allFrom a xs = allFrom b xs → a = b
  | [], a, b, _, _, _, _, h => h
  | x :: r, a, b, h0, h1, h2, h3, h => by
    have e : allFrom (stp 7919 a x) r = allFrom (stp 7919 b x) r := h
    exact stp_left h0 h1 h2 h3 (allFrom_left r _ _ (stp_ge _ _ _) (stp_lt _ _ _) (stp_ge _ _ _) (stp_lt _ _ _) e)
theorem allFrom_app (m : Int) (xs ys : List Int) : allFrom m (xs ++ ys) = allFrom (allFrom m xs) ys := by unfold allFrom; rw [List.foldl_append]
theorem allFrom_mid {p q : List Int} {x y : Int} (hx : isM x = true) (hy : isM y = true) (h : allFrom 0 (p ++ x :: q) = allFrom 0 (p ++ y :: q)) : x = y := by
  rw [allFrom_app, allFrom_app] at h
  have e : allFrom (stp 7919 (allFrom 0 p) x) q = allFrom (stp 7919 (allFrom 0 p) y) q := h
  have h1 := allFrom_left q _ _ (stp_ge _ _ _) (stp_lt _ _ _) (stp_ge _ _ _) (stp_lt _ _ _) e
  have hx' := isM_iff.1 hx
  have hy' := isM_iff.1 hy
  exact stp_inj _ _ _ _ hx'.1 hx'.2 hy'.1 hy'.2 h1
theorem askedL_nodup (m : Int) (n : Nat) : (askedL m n).Nodup := by
  induction n with
  | zero => exact List.nodup_nil
  | succ n ih =>
    cases h : bit m n with
    | false => rw [askedL_miss h]; exact ih
    | true =>
      rw [askedL_hit h, List.nodup_append]
      refine ⟨ih, by simp, ?_⟩
      intro a ha b hb
      obtain ⟨k, hk, rfl, _⟩ := askedL_mem ha
      rw [List.mem_singleton.1 hb]
      omega
theorem pick_set {xs : List Int} {k : Nat} {z : Int} {is : List Int} (h : ∀ i ∈ is, i.toNat ≠ k) : pick (xs.set k z) is = pick xs is := by
  unfold pick
  apply List.map_congr_left
  intro i hi
  rw [List.getD_eq_getElem?_getD, List.getD_eq_getElem?_getD, List.getElem?_set_ne (Ne.symm (h i hi))]
theorem pick_app (xs is js : List Int) : pick xs (is ++ js) = pick xs is ++ pick xs js := by unfold pick; rw [List.map_append]
/-- Where one register alone that is asked for is another one, so is what all come to. -/
theorem dig_set {xs : List Int} {k : Nat} {x z : Int} {m : Int} (hk : k < 8) (hx : xs[k]? = some x) (hmx : isM x = true) (hmz : isM z = true) (hb : bit m k = true)
    (h : allFrom 0 (pick xs (askedL m 8)) = allFrom 0 (pick (xs.set k z) (askedL m 8))) : x = z := by
  obtain ⟨p, q, e⟩ := List.append_of_mem (askedL_of hk hb)
  have hnd := askedL_nodup m 8
  rw [e] at hnd
  have hpos : ∀ i ∈ askedL m 8, 0 ≤ i := fun i hi => by obtain ⟨j, _, rfl, _⟩ := askedL_mem hi; omega
  have hne : ∀ i ∈ p ++ q, i.toNat ≠ k := by
    intro i hi he
    have hi' : i ∈ askedL m 8 := by
      rw [e]
      rcases List.mem_append.1 hi with h | h
      · exact List.mem_append_left _ h
      · exact List.mem_append_right _ (List.mem_cons_of_mem _ h)
    have : i = (k : Int) := by have := hpos i hi'; omega
    subst this
    rw [List.nodup_append] at hnd
    obtain ⟨_, h2, h3⟩ := hnd
    rcases List.mem_append.1 hi with h | h
    · exact h3 _ h _ (List.mem_cons_self) rfl
    · exact (List.nodup_cons.1 h2).1 h
  rw [e, pick_app, pick_app, pick_set (fun i hi => hne i (List.mem_append_left _ hi))] at h
  have e2 : pick (xs.set k z) ((k : Int) :: q) = z :: pick xs q := by
    have hz : (xs.set k z)[k]? = some z := List.getElem?_set_self (by exact (List.getElem?_eq_some_iff.1 hx).1)
    have := pick_set (xs := xs) (k := k) (z := z) (is := q) (fun i hi => hne i (List.mem_append_right _ hi))
    rw [← this]
    unfold pick
    rw [List.map_cons, List.getD_eq_getElem?_getD, Int.toNat_natCast, hz]
    rfl
  have e3 : pick xs ((k : Int) :: q) = x :: pick xs q := by
    unfold pick
    rw [List.map_cons, List.getD_eq_getElem?_getD, Int.toNat_natCast, hx]
    rfl
  rw [e2, e3] at h
  exact allFrom_mid hmx hmz h
theorem differ_iff {xs ys : List Int} {m : Int} : differ xs ys m = true ↔ ∃ k : Nat, k < 8 ∧ bit m k = true ∧ xs.getD k 0 ≠ ys.getD k 0 := by
  unfold differ
  rw [List.any_eq_true]
  constructor
  · rintro ⟨i, hi, h⟩
    obtain ⟨k, hk, rfl, hb⟩ := askedL_mem hi
    exact ⟨k, hk, hb, by simpa using h⟩
  · rintro ⟨k, hk, hb, h⟩
    exact ⟨k, askedL_of hk hb, by simpa using h⟩
theorem extV_all {xs : List Int} {i m : Int} (ho : extOk xs i m = true) : okAll (extV xs i m) = true := by
  obtain ⟨h1, h2, h3⟩ := extOk_iff.1 ho
  rw [extV_ok ho]
  refine okAll_of fun k x hx => ?_
  rw [List.getElem?_set] at hx
  split at hx
  · split at hx
    · cases hx; exact isM_iff.2 ⟨stp_ge _ _ _, stp_lt _ _ _⟩
    · cases hx
  · exact okAll_at h1 hx
/-- Extended by one register, the digest is as it was just where what is asked for is alike. -/
theorem dig_ext {xs : List Int} {i m mask : Int} (hl : xs.length = 8) (ho : extOk xs i m = true) (hm : isMask mask = true) :
    decide (digV (extV xs i m) mask = digV xs mask) = !differ xs (extV xs i m) mask := by
  obtain ⟨h1, h2, h3⟩ := extOk_iff.1 ho
  have hreg := isReg_iff.1 h2
  have ha := extV_all ho
  rw [digV_ok h1 hm, digV_ok ha hm]
  cases hd : differ xs (extV xs i m) mask with
  | false => rw [pick_same hd]; simp
  | true =>
    rw [Bool.not_true]
    apply decide_eq_false
    intro he
    obtain ⟨k, hk, hb, hne⟩ := differ_iff.1 hd
    obtain ⟨j, rfl⟩ : ∃ j : Nat, i = j := ⟨i.toNat, by omega⟩
    obtain ⟨x, hx⟩ : ∃ x, xs[j]? = some x := ⟨xs[j]'(by omega), List.getElem?_eq_getElem (by omega)⟩
    have hkj : k = j := by
      apply Decidable.byContradiction
      intro hn
      apply hne
      rw [List.getD_eq_getElem?_getD, List.getD_eq_getElem?_getD, extV_other ho (by omega)]
    subst hkj
    rw [extV_ok ho, Int.toNat_natCast] at he hne
    have hz := dig_set (z := stp 7919 (xs.getD k 0) m) hk hx (okAll_at h1 hx) (isM_iff.2 ⟨stp_ge _ _ _, stp_lt _ _ _⟩) hb he.symm
    apply hne
    rw [List.getD_eq_getElem?_getD (l := xs.set _ _), List.getElem?_set_self (by omega), List.getD_eq_getElem?_getD, hx] 
    rw [List.getD_eq_getElem?_getD, hx] at hz
    exact hz
theorem dig_same {xs ys : List Int} {mask : Int} (h : sameV xs ys mask = true) : digV xs mask = digV ys mask := by
  unfold sameV at h
  split at h
  · rename_i hh
    rw [digV_ok hh.1 hh.2.2, digV_ok hh.2.1 hh.2.2, pick_same (by simpa using h)]
  · cases h
theorem dig_range (xs : List Int) (m : Int) : 0 ≤ digV xs m ∧ digV xs m < 1000003 := by
  unfold digV
  split
  · exact allFrom_range 0 _ (by omega) (by omega)
  · omega
end Go.Proofs.YtojdaifnljghkabDoor.M
