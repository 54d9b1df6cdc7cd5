/-
  Plain mathematics on events, for EventOrder: a step is one-to-one, so that two events of one register may change places just if they are alike.
-/
import Derived.Test.YteebkpjnihffiaaEventMath
namespace Go.Proofs.Yteebkpjnihffiaa.M
set_option linter.unusedVariables false

theorem stp_left {x y m : Int} (hx : isM x = true) (hy : isM y = true) (h : stp 7919 x m = stp 7919 y m) : x = y := by
  obtain ⟨h1, h2⟩ := isM_iff.1 hx
  obtain ⟨h3, h4⟩ := isM_iff.1 hy
  unfold stp at h
  obtain ⟨q, hq⟩ : ∃ q, 7919 * (x - y) = 1000003 * q := ⟨(7919 * x + m + 1) / 1000003 - (7919 * y + m + 1) / 1000003, by omega⟩
  have hc : (658671 : Int) * 7919 - 1000003 * 5216 = 1 := by decide
  have h6 : x - y = 1000003 * (658671 * q - 5216 * (x - y)) := by
    generalize x - y = d at *
    rw [Int.mul_sub, Int.mul_left_comm, ← hq, ← Int.mul_assoc, ← Int.mul_assoc, ← Int.sub_mul, hc, Int.one_mul]
  clear h hq hc
  generalize 658671 * q - 5216 * (x - y) = t at h6
  omega
theorem stp_swap {x a b : Int} (ha : isM a = true) (hb : isM b = true) (h : stp 7919 (stp 7919 x a) b = stp 7919 (stp 7919 x b) a) : a = b := by
  obtain ⟨h1, h2⟩ := isM_iff.1 ha
  obtain ⟨h3, h4⟩ := isM_iff.1 hb
  unfold stp at h
  omega
theorem putR_at {xs : List Int} {e : Int × Int} (h : e.1.toNat < xs.length) : (putR xs e)[e.1.toNat]? = some (stp 7919 (xs.getD e.1.toNat 0) e.2) := by
  unfold putR
  rw [List.getElem?_set_self h]
theorem putR_else {xs : List Int} {e : Int × Int} {k : Nat} (h : e.1.toNat ≠ k) : (putR xs e)[k]? = xs[k]? := by
  unfold putR
  rw [List.getElem?_set_ne h]
theorem evOk_reg {e : Int × Int} (h : evOk e = true) : e.1.toNat < 8 := by
  have := isReg_iff.1 (evOk_iff.1 h).1
  omega
theorem putR_inj {xs ys : List Int} {e : Int × Int} (hx : xs.length = 8) (hy : ys.length = 8) (ox : okAll xs = true) (oy : okAll ys = true) (he : evOk e = true) (h : putR xs e = putR ys e) : xs = ys := by
  have hr := evOk_reg he
  apply List.ext_getElem?
  intro k
  by_cases hk : e.1.toNat = k
  · subst hk
    have h1 := congrArg (fun l => l[e.1.toNat]?) h
    simp only [putR_at (xs := xs) (e := e) (by omega), putR_at (xs := ys) (e := e) (by omega), Option.some.injEq] at h1
    have gx : xs[e.1.toNat]? = some (xs.getD e.1.toNat 0) := by rw [List.getD_eq_getElem?_getD, List.getElem?_eq_getElem (by omega)]; rfl
    have gy : ys[e.1.toNat]? = some (ys.getD e.1.toNat 0) := by rw [List.getD_eq_getElem?_getD, List.getElem?_eq_getElem (by omega)]; rfl
    rw [gx, gy, stp_left (okAll_at ox gx) (okAll_at oy gy) h1]
  · have h1 := congrArg (fun l => l[k]?) h
    simp only [putR_else (xs := xs) hk, putR_else (xs := ys) hk] at h1
    exact h1
theorem fold_inj : ∀ {r : List (Int × Int)} {xs ys : List Int}, xs.length = 8 → ys.length = 8 → okAll xs = true → okAll ys = true → r.all evOk = true → r.foldl putR xs = r.foldl putR ys → xs = ys
  | [], _, _, _, _, _, _, _, h => h
  | e :: r, xs, ys, hx, hy, ox, oy, hr, h => by
    rw [List.all_cons, Bool.and_eq_true] at hr
    rw [List.foldl_cons, List.foldl_cons] at h
    exact putR_inj hx hy ox oy hr.1 (fold_inj (by rw [putR_len]; exact hx) (by rw [putR_len]; exact hy) (putR_ok ox e) (putR_ok oy e) hr.2 h)
/-- Two events of two registers, one behind the other, come to the same either way round. -/
theorem order_two {a b : Int × Int} {p r : List (Int × Int)} (ha : evOk a = true) (hb : evOk b = true) (hne : ¬ a.1 = b.1) : repV (p ++ b :: a :: r) = repV (p ++ a :: b :: r) := by
  have h1 := isReg_iff.1 (evOk_iff.1 ha).1
  have h2 := isReg_iff.1 (evOk_iff.1 hb).1
  exact fold_comm (by omega) p r
/-- Of one register they do just if they are alike. -/
theorem order_one {a b : Int × Int} {p r : List (Int × Int)} (ha : evOk a = true) (hb : evOk b = true) (hr : r.all evOk = true) (he : a.1 = b.1) : repV (p ++ b :: a :: r) = repV (p ++ a :: b :: r) ↔ a = b := by
  constructor
  · intro h
    unfold repV at h
    rw [List.foldl_append, List.foldl_append, List.foldl_cons, List.foldl_cons, List.foldl_cons, List.foldl_cons] at h
    have hl : (p.foldl putR noBank).length = 8 := fold_len p noBank
    have ho : okAll (p.foldl putR noBank) = true := fold_ok p noBank rfl
    generalize p.foldl putR noBank = xs at *
    have h1 := fold_inj (by rw [putR_len, putR_len]; exact hl) (by rw [putR_len, putR_len]; exact hl) (putR_ok (putR_ok ho b) a) (putR_ok (putR_ok ho a) b) hr h
    obtain ⟨i, x⟩ := a
    obtain ⟨j, y⟩ := b
    simp only [] at he
    subst he
    have hi := evOk_reg ha
    simp only [] at hi
    have h2 := congrArg (fun l => l[i.toNat]?) h1
    have e1 := putR_at (xs := putR xs (i, y)) (e := (i, x)) (by rw [putR_len]; simp only []; omega)
    have e2 := putR_at (xs := putR xs (i, x)) (e := (i, y)) (by rw [putR_len]; simp only []; omega)
    have e3 := putR_at (xs := xs) (e := (i, y)) (by simp only []; omega)
    have e4 := putR_at (xs := xs) (e := (i, x)) (by simp only []; omega)
    simp only [] at e1 e2 e3 e4 h2
    rw [e1, e2, List.getD_eq_getElem?_getD, List.getD_eq_getElem?_getD, e3, e4] at h2
    simp only [Option.getD_some, Option.some.injEq] at h2
    have := stp_swap (evOk_iff.1 hb).2 (evOk_iff.1 ha).2 h2
    simp only [] at this
    rw [this]
  · intro h
    rw [h]
end Go.Proofs.Yteebkpjnihffiaa.M
