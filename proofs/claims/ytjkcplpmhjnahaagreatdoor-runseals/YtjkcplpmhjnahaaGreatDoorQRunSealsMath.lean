/-
  Plain mathematics on sessions that seal: what a public key and a seal are answered, and that the seal is right when it is checked.
-/
import Derived.Test.YtjkcplpmhjnahaaGreatDoorPack1
import Derived.Test.YtjkcplpmhjnahaaGreatDoorQCertMath
namespace Go.Proofs.YtjkcplpmhjnahaaGreatDoor.M
set_option linter.unusedVariables false

theorem dec_digit : ∀ (k n : Nat), n ≤ k → ∀ b ∈ Lib.decDigits n, 48 ≤ b.toNat ∧ b.toNat ≤ 57
  | k, n, hk, b, hb => by
    by_cases h : n < 10
    · rw [dec_small h, List.mem_singleton] at hb
      subst hb
      have : (UInt8.ofNat (48 + n)).toNat = 48 + n := by simp; omega
      omega
    · cases k with
      | zero => omega
      | succ k =>
        rw [dec_big h] at hb
        rcases List.mem_append.1 hb with hb | hb
        · exact dec_digit k (n / 10) (by omega) b hb
        · rw [List.mem_singleton] at hb
          subst hb
          have hm : n % 10 < 10 := Nat.mod_lt _ (by omega)
          have : (UInt8.ofNat (48 + n % 10)).toNat = 48 + n % 10 := by simp; omega
          omega
theorem dec_not (n : Nat) (c : UInt8) (hc : c.toNat < 48) : c ∉ Lib.decDigits n := by
  intro h
  have := dec_digit n n (Nat.le_refl _) c h
  omega
theorem cutG_none (c : UInt8) : ∀ (l acc : List UInt8), c ∉ l → cutG c acc l = [acc ++ l]
  | [], acc, _ => by simp [cutG]
  | b :: l, acc, h => by
    have hb : ¬ b = c := fun e => h (by simp [e])
    rw [cutG, if_neg hb, cutG_none c l _ (fun hm => h (by simp [hm]))]
    simp
theorem cutG_one (c : UInt8) (l r : List UInt8) (h : c ∉ l) : cutG c [] (l ++ c :: r) = l :: cutG c [] r := by
  rw [cutG_app, cutG_none c l [] h]
  rfl
theorem numP_dec {n : Nat} (h : n < 10000000) : numP (Lib.decDigits n) = some n := by
  have hl := dec_len 6 n (by omega)
  unfold numP
  rw [if_neg, decFrom_dec n n (Nat.le_refl _)]
  intro hh
  rcases hh with hh | hh | ⟨h1, h2⟩
  · exact dec_ne n hh
  · omega
  · have := dec_head n n (Nat.le_refl _) h1
    subst this
    rw [dec_small (by omega)] at h2
    simp at h2
/-- The first text, and what it is answered. -/
def sealT (x k m : Nat) : List UInt8 := kwPublic ++ 32 :: Lib.decDigits x ++ 10 :: (kwSign ++ 32 :: (Lib.decDigits x ++ 32 :: (Lib.decDigits k ++ 32 :: Lib.decDigits m))) ++ [10]
def sealA (x k m : Nat) : List UInt8 := digs (sigP x k m) ++ [32] ++ digs (sigA x k m)
theorem dig_not (n : Int) (c : UInt8) (hc : c.toNat < 48) : c ∉ digs n := dec_not _ c hc
theorem mem_three {c : UInt8} {a b d : List UInt8} (h1 : c ∉ a) (h2 : c ∉ b) (h3 : c ∉ d) : c ∉ a ++ b ++ d := by
  intro h
  rcases List.mem_append.1 h with h | h
  · rcases List.mem_append.1 h with h | h
    · exact h1 h
    · exact h2 h
  · exact h3 h
theorem sealA_ten (x k m : Nat) : (10 : UInt8) ∉ sealA x k m := mem_three (dig_not _ _ (by decide)) (by decide) (dig_not _ _ (by decide))
theorem line_pub {d : Dk} {x : Nat} (h : secB x = true) (hx : x < 10000000) : lineA d (kwPublic ++ 32 :: Lib.decDigits x) = (digs (pwZ 64 x), d) := by
  unfold lineA
  rw [cutG_one 32 kwPublic _ (by decide), cutG_none 32 _ [] (dec_not x 32 (by decide)), List.nil_append]
  simp only [show wantW kwPublic = some (false, 1) by decide, List.length_singleton, if_true, Bool.false_eq_true, if_false, false_and]
  unfold numsL numsL
  rw [numP_dec hx]
  simp only []
  unfold doL
  simp only [show ¬ kwPublic = kwExtend by decide, show ¬ kwPublic = kwDigest by decide, if_false, if_true]
  rw [if_pos (by simpa using h)]
  rfl
theorem line_sign {d : Dk} {x k m : Nat} (hx : x < 10000000) (hk : k < 10000000) (hm : m < 10000000) (h : sigC x k m = 0) : lineA d (kwSign ++ 32 :: (Lib.decDigits x ++ 32 :: (Lib.decDigits k ++ 32 :: Lib.decDigits m))) = (sealA x k m, d) := by
  unfold lineA
  rw [cutG_one 32 kwSign _ (by decide), cutG_one 32 _ _ (dec_not x 32 (by decide)), cutG_one 32 _ _ (dec_not k 32 (by decide)), cutG_none 32 _ [] (dec_not m 32 (by decide)), List.nil_append]
  simp only [show wantW kwSign = some (false, 3) by decide, List.length_cons, List.length_nil, if_true, Bool.false_eq_true, if_false, false_and]
  unfold numsL numsL numsL numsL
  rw [numP_dec hx, numP_dec hk, numP_dec hm]
  simp only []
  unfold doL
  simp only [show ¬ kwSign = kwExtend by decide, show ¬ kwSign = kwDigest by decide, show ¬ kwSign = kwPublic by decide, show ¬ kwSign = kwMeasure by decide, show ¬ kwSign = kwRaise by decide, show ¬ kwSign = kwMay by decide, if_false, if_true]
  rw [if_pos (by simpa using h)]
  rfl
theorem line_check {d : Dk} {q m p a : Nat} (hq : q < 10000000) (hm : m < 10000000) (hp : p < 10000000) (ha : a < 10000000) (h : rigC q m p a = 0) : lineA d (kwCheck ++ 32 :: (Lib.decDigits q ++ 32 :: (Lib.decDigits m ++ 32 :: (Lib.decDigits p ++ 32 :: Lib.decDigits a)))) = (ansYes, d) := by
  unfold lineA
  rw [cutG_one 32 kwCheck _ (by decide), cutG_one 32 _ _ (dec_not q 32 (by decide)), cutG_one 32 _ _ (dec_not m 32 (by decide)), cutG_one 32 _ _ (dec_not p 32 (by decide)), cutG_none 32 _ [] (dec_not a 32 (by decide)), List.nil_append]
  simp only [show wantW kwCheck = some (false, 4) by decide, List.length_cons, List.length_nil, if_true, Bool.false_eq_true, if_false, false_and]
  unfold numsL numsL numsL numsL numsL
  rw [numP_dec hq, numP_dec hm, numP_dec hp, numP_dec ha]
  simp only []
  unfold doL
  simp only [show ¬ kwCheck = kwExtend by decide, show ¬ kwCheck = kwDigest by decide, show ¬ kwCheck = kwPublic by decide, show ¬ kwCheck = kwMeasure by decide, show ¬ kwCheck = kwRaise by decide, show ¬ kwCheck = kwMay by decide, show ¬ kwCheck = kwSign by decide, if_false]
  rw [if_neg (by simpa using (show ¬ rigC q m p a = 1 by rw [h]; decide)), if_pos (by simpa using h)]
theorem pub_lt (x : Int) : (pwZ 64 x).toNat < 10000000 ∧ (((pwZ 64 x).toNat : Nat) : Int) = pwZ 64 x := by
  have := inB_iff.1 (pwZ_in x)
  omega
theorem dec_len7 {n : Nat} (h : n < 10000000) : (Lib.decDigits n).length ≤ 7 := dec_len 6 n (by omega)
section
variable {x k m : Nat}
theorem seal_nums (hx : secB x = true) (hk : secB k = true) (hm : isM m = true) : x < 10000000 ∧ k < 10000000 ∧ m < 10000000 ∧ sigC x k m = 0 ∧ ((sigP x k m).toNat < 10000000 ∧ (((sigP x k m).toNat : Nat) : Int) = sigP x k m) ∧ ((sigA x k m).toNat < 10000000 ∧ (((sigA x k m).toNat : Nat) : Int) = sigA x k m) := by
  have h1 := secB_iff.1 hx
  have h2 := secB_iff.1 hk
  have h3 := isM_iff.1 hm
  refine ⟨by omega, by omega, by omega, sigC_ok hx hk hm, ?_, ?_⟩
  · rw [sigP_ok hx hk hm]
    exact pub_lt _
  · have := ansB_iff.1 (sigA_ans (x := x) (k := k) (m := m))
    omega
theorem seal_first (hx : secB x = true) (hk : secB k = true) (hm : isM m = true) : ansT (sealT x k m) = digs (pwZ 64 x) ++ 10 :: (sealA x k m ++ [10]) := by
  obtain ⟨b1, b2, b3, b4, _, _⟩ := seal_nums hx hk hm
  have l1 := dec_len7 b1
  have l2 := dec_len7 b2
  have l3 := dec_len7 b3
  have hl : (sealT x k m).length ≤ 3000 := by
    unfold sealT kwPublic kwSign
    simp only [List.length_append, List.length_cons, List.length_nil]
    omega
  have n1 : (10 : UInt8) ∉ kwPublic ++ 32 :: Lib.decDigits x := by
    intro h
    rcases List.mem_append.1 h with h | h
    · revert h; decide
    · rcases List.mem_cons.1 h with h | h
      · revert h; decide
      · exact dec_not x 10 (by decide) h
  have n2 : (10 : UInt8) ∉ kwSign ++ 32 :: (Lib.decDigits x ++ 32 :: (Lib.decDigits k ++ 32 :: Lib.decDigits m)) := by
    intro h
    rcases List.mem_append.1 h with h | h
    · revert h; decide
    · rcases List.mem_cons.1 h with h | h
      · revert h; decide
      · rcases List.mem_append.1 h with h | h
        · exact dec_not x 10 (by decide) h
        · rcases List.mem_cons.1 h with h | h
          · revert h; decide
          · rcases List.mem_append.1 h with h | h
            · exact dec_not k 10 (by decide) h
            · rcases List.mem_cons.1 h with h | h
              · revert h; decide
              · exact dec_not m 10 (by decide) h
  have hln : linesL (sealT x k m) = [kwPublic ++ 32 :: Lib.decDigits x, kwSign ++ 32 :: (Lib.decDigits x ++ 32 :: (Lib.decDigits k ++ 32 :: Lib.decDigits m))] := by
    unfold sealT
    rw [lines_end, cutG_one 10 _ _ n1, cutG_none 10 _ [] n2, List.nil_append]
  unfold ansT
  rw [if_neg (by omega), hln]
  unfold runA runA runA
  rw [line_pub hx b1]
  simp only []
  rw [line_sign b1 b2 b3 b4]
  simp
theorem seal_cut (x k m : Nat) (q : Int) : cutG 10 [] (digs q ++ 10 :: (sealA x k m ++ [10])) = [digs q, sealA x k m, []] := by
  rw [cutG_one 10 _ _ (dig_not _ _ (by decide)), cutG_one 10 _ [] (sealA_ten x k m)]
  rfl
theorem seal_check (hx : secB x = true) (hk : secB k = true) (hm : isM m = true) : ansT (kwCheck ++ 32 :: (digs (pwZ 64 x) ++ 32 :: (Lib.decDigits m ++ 32 :: sealA x k m)) ++ [10]) = ansYes ++ [10] := by
  obtain ⟨b1, b2, b3, b4, ⟨b5, b6⟩, b7, b8⟩ := seal_nums hx hk hm
  obtain ⟨b9, b10⟩ := pub_lt x
  have e : kwCheck ++ 32 :: (digs (pwZ 64 x) ++ 32 :: (Lib.decDigits m ++ 32 :: sealA x k m)) = kwCheck ++ 32 :: (Lib.decDigits (pwZ 64 x).toNat ++ 32 :: (Lib.decDigits m ++ 32 :: (Lib.decDigits (sigP x k m).toNat ++ 32 :: Lib.decDigits (sigA x k m).toNat))) := by
    unfold sealA digs
    simp
  have l1 := dec_len7 b9
  have l2 := dec_len7 b3
  have l3 := dec_len7 b5
  have l4 := dec_len7 b7
  have n1 : (10 : UInt8) ∉ kwCheck ++ 32 :: (Lib.decDigits (pwZ 64 x).toNat ++ 32 :: (Lib.decDigits m ++ 32 :: (Lib.decDigits (sigP x k m).toNat ++ 32 :: Lib.decDigits (sigA x k m).toNat))) := by
    intro h
    rcases List.mem_append.1 h with h | h
    · revert h; decide
    · rcases List.mem_cons.1 h with h | h
      · revert h; decide
      · rcases List.mem_append.1 h with h | h
        · exact dec_not _ 10 (by decide) h
        · rcases List.mem_cons.1 h with h | h
          · revert h; decide
          · rcases List.mem_append.1 h with h | h
            · exact dec_not _ 10 (by decide) h
            · rcases List.mem_cons.1 h with h | h
              · revert h; decide
              · rcases List.mem_append.1 h with h | h
                · exact dec_not _ 10 (by decide) h
                · rcases List.mem_cons.1 h with h | h
                  · revert h; decide
                  · exact dec_not _ 10 (by decide) h
  have hr : rigC (pwZ 64 x).toNat m (sigP x k m).toNat (sigA x k m).toNat = 0 := by rw [b10, b6, b8]; exact rig_own hx hk hm
  rw [e]
  unfold ansT
  rw [if_neg (by
    unfold kwCheck
    simp only [List.length_append, List.length_cons, List.length_nil]
    omega), lines_end, cutG_none 10 _ [] n1, List.nil_append]
  unfold runA runA
  rw [line_check b9 b3 b5 b7 hr]
  simp
end
end Go.Proofs.YtjkcplpmhjnahaaGreatDoor.M
