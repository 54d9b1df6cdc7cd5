/-
  Plain mathematics on keys and seals: powers modulo 1543, that 64 is of order 257 there, that a seal is right by its key and with no other answer, and what two seals by one number tell.
-/
import Derived.Test.YtojdaifnljghkaaDoorMath
namespace Go.Proofs.YtojdaifnljghkaaDoor.M

/-- A number to a power, modulo the group. -/
def pw (a n : Nat) : Nat := a ^ n % 1543
theorem pw_lt (a n : Nat) : pw a n < 1543 := Nat.mod_lt _ (by omega)
theorem pw_zero (a : Nat) : pw a 0 = 1 := by unfold pw; rw [Nat.pow_zero]
theorem pw_one {a : Nat} (h : a < 1543) : pw a 1 = a := by unfold pw; rw [Nat.pow_one, Nat.mod_eq_of_lt h]
theorem pw_add (a m n : Nat) : pw a (m + n) = pw a m * pw a n % 1543 := by unfold pw; rw [Nat.pow_add, Nat.mul_mod]
theorem pw_succ (a n : Nat) : pw a (n + 1) = pw a n * a % 1543 := by
  rw [pw_add]
  unfold pw
  rw [Nat.pow_one]
  simp [Nat.mul_mod]
theorem pw_mul (a m n : Nat) : pw a (m * n) = pw (pw a m) n := by
  unfold pw
  rw [Nat.pow_mul]
  exact Nat.pow_mod _ _ _
theorem pw_even (a n : Nat) : pw a (2 * n) = pw a n * pw a n % 1543 := by rw [show 2 * n = n + n by omega, pw_add]
theorem pw_half_even {a n : Nat} (h : n % 2 = 0) : pw a n = pw a (n / 2) * pw a (n / 2) % 1543 := by rw [← pw_even, show 2 * (n / 2) = n by omega]
theorem pw_half_odd {a n : Nat} (h : n % 2 = 1) : pw a n = (pw a (n / 2) * pw a (n / 2) % 1543) * a % 1543 := by
  rw [← pw_even, ← pw_succ, show 2 * (n / 2) + 1 = n by omega]
/-- 64 has the order 257. -/
theorem pw_order : pw 64 257 = 1 := by decide +kernel
theorem pw_mod (n : Nat) : pw 64 (n % 257) = pw 64 n := by
  have h : pw 64 n = pw 64 (257 * (n / 257)) * pw 64 (n % 257) % 1543 := by rw [← pw_add, Nat.div_add_mod]
  have h1 : ∀ k, pw 1 k = 1 := fun k => by unfold pw; rw [Nat.one_pow]
  rw [h, pw_mul, pw_order, h1, Nat.one_mul, Nat.mod_eq_of_lt (pw_lt _ _)]
/-- The powers of 64, as far as they are unlike. -/
def pws : List Nat := (List.range 257).map (pw 64)
theorem pws_nodup : pws.Nodup := by
  have h : decide pws.Nodup = true := by decide +kernel
  exact of_decide_eq_true h
theorem pw_inj {i j : Nat} (hi : i < 257) (hj : j < 257) (h : pw 64 i = pw 64 j) : i = j := by
  have li : i < pws.length := by simp [pws]; exact hi
  have lj : j < pws.length := by simp [pws]; exact hj
  have e : pws[i] = pws[j] := by simpa [pws] using h
  exact (List.getElem_inj pws_nodup).1 e
theorem pw_iff {i j : Nat} (hi : i < 257) (hj : j < 257) : pw 64 i = pw 64 j ↔ i = j := ⟨pw_inj hi hj, fun e => by rw [e]⟩
theorem pw_pos_fin : ∀ k : Fin 257, 1 ≤ pw 64 k.val := by decide +kernel
theorem pw_pos (n : Nat) : 1 ≤ pw 64 n := by
  rw [← pw_mod]
  exact pw_pos_fin ⟨n % 257, Nat.mod_lt _ (by omega)⟩
theorem pw_ne_one {x : Nat} (h1 : 1 ≤ x) (h2 : x ≤ 256) : pw 64 x ≠ 1 := by
  intro e
  have := pw_inj (i := x) (j := 0) (by omega) (by omega) (by rw [e, pw_zero])
  omega
/-- A seal is right by its key: Schnorr. -/
theorem seal_right (k c x : Nat) : pw 64 ((k + c * x) % 257) = pw 64 k * pw (pw 64 x) c % 1543 := by
  rw [pw_mod, pw_add, Nat.mul_comm c x, pw_mul]
/-- With another answer it is not. -/
theorem seal_other {k c x other : Nat} (h : other < 257) : pw 64 other = pw 64 k * pw (pw 64 x) c % 1543 ↔ other = (k + c * x) % 257 := by
  rw [← seal_right]
  exact pw_iff h (Nat.mod_lt _ (by omega))
/-- Two seals by one number: what the challenges are apart, times the secret, is what the answers are apart. -/
theorem seal_two (k a b x : Nat) : ((((a : Int) - b + 257) * x - ((((k + a * x) % 257 : Nat) : Int) - (((k + b * x) % 257 : Nat) : Int) + 257))) % 257 = 0 := by
  have e : ((a : Int) - b + 257) * x = (a * x : Nat) - (b * x : Nat) + 257 * x := by
    rw [Int.add_mul, Int.sub_mul]
    simp [Int.natCast_mul]
  rw [e]
  generalize a * x = p
  generalize b * x = q
  omega
theorem seal_two_tmod (k a b x : Nat) : Int.tmod (((a : Int) - b + 257) * x - ((((k + a * x) % 257 : Nat) : Int) - (((k + b * x) % 257 : Nat) : Int) + 257)) 257 = 0 :=
  Int.tmod_eq_zero_of_dvd (Int.dvd_of_emod_eq_zero (seal_two k a b x))
end Go.Proofs.YtojdaifnljghkaaDoor.M
