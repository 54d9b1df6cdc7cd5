/-
  What package key says, as plain functions: which numbers are secrets, which are of the group, the challenge, the public key, a seal, and what is wrong with one.
-/
import Derived.Test.YtojdaifnljghkaaDoorKeyMath
import Derived.Test.YtojdaifnljghkaaDoorInts
namespace Go.Proofs.YtojdaifnljghkaaDoor.M

/-- Is it a secret? Is it of the group? May it be an answer? -/
def secB (x : Int) : Bool := decide (1 ≤ x ∧ x < 257)
def inB (n : Int) : Bool := decide (1 ≤ n ∧ n < 1543)
def ansB (n : Int) : Bool := decide (0 ≤ n ∧ n < 257)
theorem secB_iff {x : Int} : secB x = true ↔ 1 ≤ x ∧ x < 257 := by unfold secB; simp
theorem secB_not {x : Int} : secB x = false ↔ ¬ (1 ≤ x ∧ x < 257) := by unfold secB; simp
theorem inB_iff {x : Int} : inB x = true ↔ 1 ≤ x ∧ x < 1543 := by unfold inB; simp
theorem inB_not {x : Int} : inB x = false ↔ ¬ (1 ≤ x ∧ x < 1543) := by unfold inB; simp
theorem ansB_iff {x : Int} : ansB x = true ↔ 0 ≤ x ∧ x < 257 := by unfold ansB; simp
theorem ansB_not {x : Int} : ansB x = false ↔ ¬ (0 ≤ x ∧ x < 257) := by unfold ansB; simp
theorem inB_isM {x : Int} (h : inB x = true) : isM x = true := isM_iff.2 (by have := inB_iff.1 h; omega)

/-- A power, of whole numbers. -/
def pwZ (a n : Int) : Int := ((pw a.toNat n.toNat : Nat) : Int)
theorem pwZ_nat (a n : Nat) : pwZ a n = (pw a n : Nat) := rfl
theorem pwZ_lo (a n : Int) : 0 ≤ pwZ a n := Int.natCast_nonneg _
theorem pwZ_hi (a n : Int) : pwZ a n < 1543 := by
  have := pw_lt a.toNat n.toNat
  unfold pwZ
  omega
theorem pwZ_in (n : Int) : inB (pwZ 64 n) = true := by
  rw [inB_iff]
  have h1 := pw_pos n.toNat
  have h2 := pw_lt 64 n.toNat
  unfold pwZ
  have e : (64 : Int).toNat = 64 := rfl
  rw [e]
  omega

/-- The challenge of a point, a key and a measure; what is wrong with it. -/
def chV (p q m : Int) : Int := allV [p, q, m] % 257
theorem chV_lo (p q m : Int) : 0 ≤ chV p q m := by unfold chV; omega
theorem chV_hi (p q m : Int) : chV p q m < 257 := by unfold chV; omega
theorem ok_three {p q m : Int} (hp : isM p = true) (hq : isM q = true) : okAll [p, q, m] = isM m := by simp [okAll, hp, hq]
theorem allC_three {p q m : Int} (hp : isM p = true) (hq : isM q = true) : allC [p, q, m] = if isM m = true then 0 else 1 := by
  unfold allC
  rw [if_neg (by simp), ok_three hp hq]
theorem allV_three {p q m : Int} (hp : isM p = true) (hq : isM q = true) (hm : isM m = true) : allV [p, q, m] = allFrom 0 [p, q, m] := by
  unfold allV
  rw [if_neg (by simp), ok_three hp hq, if_pos hm]
theorem chV_ok {p q m : Int} (hp : isM p = true) (hq : isM q = true) (hm : isM m = true) : chV p q m = allFrom 0 [p, q, m] % 257 := by
  unfold chV
  rw [allV_three hp hq hm]

/-- A public key; what is wrong. -/
def pubC (x : Int) : Int := if secB x = true then 0 else 1
def pubV (x : Int) : Int := if secB x = true then pwZ 64 x else 0
theorem pubC_ok {x : Int} (h : secB x = true) : pubC x = 0 := if_pos h
theorem pubV_ok {x : Int} (h : secB x = true) : pubV x = pwZ 64 x := if_pos h
theorem pubC_no {x : Int} (h : secB x = false) : pubC x = 1 := by unfold pubC; rw [h]; rfl
theorem pubV_no {x : Int} (h : secB x = false) : pubV x = 0 := by unfold pubV; rw [h]; rfl

/-- A seal: its challenge, what is wrong, its point, its answer. -/
def sigH (x k m : Int) : Int := chV (pwZ 64 k) (pwZ 64 x) m
def sigC (x k m : Int) : Int := if secB x = true ∧ secB k = true ∧ isM m = true then 0 else 1
def sigP (x k m : Int) : Int := if secB x = true ∧ secB k = true ∧ isM m = true then pwZ 64 k else 0
def sigA (x k m : Int) : Int := if secB x = true ∧ secB k = true ∧ isM m = true then (k + sigH x k m * x) % 257 else 0
theorem sigC_ok {x k m : Int} (hx : secB x = true) (hk : secB k = true) (hm : isM m = true) : sigC x k m = 0 := if_pos ⟨hx, hk, hm⟩
theorem sigP_ok {x k m : Int} (hx : secB x = true) (hk : secB k = true) (hm : isM m = true) : sigP x k m = pwZ 64 k := if_pos ⟨hx, hk, hm⟩
theorem sigA_ok {x k m : Int} (hx : secB x = true) (hk : secB k = true) (hm : isM m = true) : sigA x k m = (k + sigH x k m * x) % 257 := if_pos ⟨hx, hk, hm⟩
theorem sig_no {x k m : Int} (h : secB x = false ∨ secB k = false ∨ isM m = false) : sigC x k m = 1 ∧ sigP x k m = 0 ∧ sigA x k m = 0 := by
  have hn : ¬ (secB x = true ∧ secB k = true ∧ isM m = true) := by
    rintro ⟨a, b, c⟩
    rw [a, b, c] at h
    simp at h
  unfold sigC sigP sigA
  rw [if_neg hn, if_neg hn, if_neg hn]
  exact ⟨rfl, rfl, rfl⟩
theorem sigC_zero {x k m : Int} (h : sigC x k m = 0) : secB x = true ∧ secB k = true ∧ isM m = true := by
  unfold sigC at h
  split at h
  · assumption
  · cases h

/-- Is a seal right: its form, and what it says. -/
def formB (q m p a : Int) : Bool := inB q && inB p && isM m && ansB a
def saysB (q m p a : Int) : Bool := decide (pwZ 64 a = p * pwZ q (chV p q m) % 1543)
def rigC (q m p a : Int) : Int := if formB q m p a = true then (if saysB q m p a = true then 0 else 8) else 1
def chkC (q m p a : Int) : Int := if formB q m p a = true then 0 else 1
def chkB (q m p a : Int) : Bool := formB q m p a && saysB q m p a
theorem formB_iff {q m p a : Int} : formB q m p a = true ↔ inB q = true ∧ inB p = true ∧ isM m = true ∧ ansB a = true := by
  unfold formB
  simp [Bool.and_eq_true, and_assoc]
theorem form_no {q m p a : Int} (h : inB q = false ∨ inB p = false ∨ isM m = false ∨ ansB a = false) : formB q m p a = false := by
  unfold formB
  rcases h with h | h | h | h <;> rw [h] <;> simp
theorem rigC_no {q m p a : Int} (h : formB q m p a = false) : rigC q m p a = 1 := by unfold rigC; rw [h]; rfl
theorem chkC_no {q m p a : Int} (h : formB q m p a = false) : chkC q m p a = 1 := by unfold chkC; rw [h]; rfl
theorem chkB_no {q m p a : Int} (h : formB q m p a = false) : chkB q m p a = false := by unfold chkB; rw [h]; rfl
theorem chkC_ok {q m p a : Int} (h : formB q m p a = true) : chkC q m p a = 0 := by unfold chkC; rw [h]; rfl
theorem chkB_ok {q m p a : Int} (h : formB q m p a = true) : chkB q m p a = saysB q m p a := by unfold chkB; rw [h]; rfl
theorem rigC_yes {q m p a : Int} (h : formB q m p a = true) (hs : saysB q m p a = true) : rigC q m p a = 0 := by unfold rigC; rw [h, hs]; rfl
theorem rigC_else {q m p a : Int} (h : formB q m p a = true) (hs : saysB q m p a = false) : rigC q m p a = 8 := by unfold rigC; rw [h, hs]; rfl
theorem rig_chk (q m p a : Int) : (rigC q m p a = 0 ∧ chkC q m p a = 0 ∧ chkB q m p a = true) ∨ (rigC q m p a = 8 ∧ chkC q m p a = 0 ∧ chkB q m p a = false) ∨ (rigC q m p a = 1 ∧ chkC q m p a = 1 ∧ chkB q m p a = false) := by
  cases h : formB q m p a with
  | false => exact Or.inr (Or.inr ⟨rigC_no h, chkC_no h, chkB_no h⟩)
  | true =>
    cases hs : saysB q m p a with
    | true => exact Or.inl ⟨rigC_yes h hs, chkC_ok h, by rw [chkB_ok h, hs]⟩
    | false => exact Or.inr (Or.inl ⟨rigC_else h hs, chkC_ok h, by rw [chkB_ok h, hs]⟩)

/-- A seal is right by its key, and with no other answer. -/
theorem says_own {x k m other : Int} (hx : secB x = true) (hk : secB k = true) (hm : isM m = true) (ho : ansB other = true) : saysB (pwZ 64 x) m (pwZ 64 k) other = decide (other = sigA x k m) := by
  have x1 := secB_iff.1 hx
  have k1 := secB_iff.1 hk
  have o1 := ansB_iff.1 ho
  have c0 := chV_lo (pwZ 64 k) (pwZ 64 x) m
  unfold saysB
  rw [sigA_ok hx hk hm]
  unfold sigH
  generalize chV (pwZ 64 k) (pwZ 64 x) m = c at *
  obtain ⟨x, rfl⟩ : ∃ n : Nat, x = n := ⟨x.toNat, by omega⟩
  obtain ⟨k, rfl⟩ : ∃ n : Nat, k = n := ⟨k.toNat, by omega⟩
  obtain ⟨o, rfl⟩ : ∃ n : Nat, other = n := ⟨other.toNat, by omega⟩
  obtain ⟨c, rfl⟩ : ∃ n : Nat, c = n := ⟨c.toNat, by omega⟩
  have h := @seal_other k c x o (by omega)
  have e1 : pwZ 64 (o : Int) = (pw 64 o : Nat) := rfl
  have e2 : pwZ 64 (k : Int) = (pw 64 k : Nat) := rfl
  have e3 : pwZ (pwZ 64 (x : Int)) (c : Int) = (pw (pw 64 x) c : Nat) := rfl
  rw [e1, e2, e3]
  apply decide_eq_decide.2
  generalize pw 64 o = A at h ⊢
  generalize pw 64 k = B at h ⊢
  generalize pw (pw 64 x) c = C at h ⊢
  rw [← Int.natCast_mul, ← Int.natCast_mul]
  generalize B * C = D at h ⊢
  generalize c * x = E at h ⊢
  constructor
  · intro e
    have := h.1 (by omega)
    omega
  · intro e
    have := h.2 (by omega)
    omega
theorem sigA_ans {x k m : Int} : ansB (sigA x k m) = true := by
  rw [ansB_iff]
  unfold sigA
  split <;> omega
/-- Two seals by one number tell the secret. -/
theorem two_tell {x k m n : Int} (hx : secB x = true) (hk : secB k = true) (hm : isM m = true) (hn : isM n = true) :
    Int.tmod ((sigH x k m - sigH x k n + 257) * x - (sigA x k m - sigA x k n + 257)) 257 = 0 := by
  have x1 := secB_iff.1 hx
  have k1 := secB_iff.1 hk
  have c0 := chV_lo (pwZ 64 k) (pwZ 64 x) m
  have d0 := chV_lo (pwZ 64 k) (pwZ 64 x) n
  rw [sigA_ok hx hk hm, sigA_ok hx hk hn]
  unfold sigH
  generalize chV (pwZ 64 k) (pwZ 64 x) m = c at *
  generalize chV (pwZ 64 k) (pwZ 64 x) n = d at *
  obtain ⟨x, rfl⟩ : ∃ n : Nat, x = n := ⟨x.toNat, by omega⟩
  obtain ⟨k, rfl⟩ : ∃ n : Nat, k = n := ⟨k.toNat, by omega⟩
  obtain ⟨c, rfl⟩ : ∃ n : Nat, c = n := ⟨c.toNat, by omega⟩
  obtain ⟨d, rfl⟩ : ∃ n : Nat, d = n := ⟨d.toNat, by omega⟩
  exact seal_two_tmod k c d x
/-- All secrets are unlike, and so are their keys. -/
theorem keys_unlike {x y : Int} (hx : secB x = true) (hy : secB y = true) : (pwZ 64 x == pwZ 64 y) = (x == y) ∧ pwZ 64 x ≠ 1 := by
  have x1 := secB_iff.1 hx
  have y1 := secB_iff.1 hy
  obtain ⟨x, rfl⟩ : ∃ n : Nat, x = n := ⟨x.toNat, by omega⟩
  obtain ⟨y, rfl⟩ : ∃ n : Nat, y = n := ⟨y.toNat, by omega⟩
  have h := @pw_iff x y (by omega) (by omega)
  have g := @pw_ne_one x (by omega) (by omega)
  have e1 : pwZ 64 (x : Int) = (pw 64 x : Nat) := rfl
  have e2 : pwZ 64 (y : Int) = (pw 64 y : Nat) := rfl
  rw [e1, e2]
  generalize pw 64 x = A at h g ⊢
  generalize pw 64 y = B at h ⊢
  constructor
  · rw [Bool.eq_iff_iff, beq_iff_eq, beq_iff_eq]
    constructor
    · intro e
      have := h.1 (by omega)
      omega
    · intro e
      have := h.2 (by omega)
      omega
  · intro e
    exact g (by omega)
end Go.Proofs.YtojdaifnljghkaaDoor.M
