/-
  Plain mathematics on quotes: one that is made, one that is checked, whether it tells of a bank; that a quote is right by its key for its number and for no other one, and of whom it tells.
-/
import Derived.Test.YtojdaifnljghkabGreatDoorQBoxMath
import Derived.Test.YtojdaifnljghkabGreatDoorPack1
namespace Go.Proofs.YtojdaifnljghkabGreatDoor.M

/-- What a quote seals. -/
def quoM (n m d : Int) : Int := allFrom 0 [n, m, d]
theorem quoM_m (n m d : Int) : isM (quoM n m d) = true := isM_iff.2 (allFrom_range 0 _ (by omega) (by omega))
theorem mask_m {m : Int} (h : isMask m = true) : isM m = true := isM_iff.2 (by have := isMask_iff.1 h; omega)
theorem quo_ok {n m d : Int} (hn : isM n = true) (hm : isMask m = true) (hd : isM d = true) : okAll [n, m, d] = true := by simp [okAll, hn, mask_m hm, hd]
theorem sigC_any {x k m m' : Int} (h : isM m = true) (h' : isM m' = true) : sigC x k m = sigC x k m' := by unfold sigC; rw [h, h']
/-- A quote that is made: what is wrong, and the quote. -/
def quoE (x k n m : Int) (xs : List Int) : Int := if isM n = true then (if digE xs m = 0 then sigC x k (quoM n m (digV xs m)) else 1) else 1
def quoV (x k n m : Int) (xs : List Int) : Int × Int × Int × Int × Int :=
  if quoE x k n m xs = 0 then (n, m, digV xs m, sigP x k (quoM n m (digV xs m)), sigA x k (quoM n m (digV xs m))) else (0, 0, 0, 0, 0)
section
variable {x k n m : Int} {xs : List Int}
theorem quoE_no (h : isM n = false) : quoE x k n m xs = 1 := by unfold quoE; rw [h]; rfl
theorem quoE_dig (h : isM n = true) (h2 : ¬ digE xs m = 0) : quoE x k n m xs = 1 := by unfold quoE; rw [if_pos h, if_neg h2]
theorem quoE_go (h : isM n = true) (h2 : digE xs m = 0) : quoE x k n m xs = sigC x k (quoM n m (digV xs m)) := by unfold quoE; rw [if_pos h, if_pos h2]
theorem quoV_ok (h : quoE x k n m xs = 0) : quoV x k n m xs = (n, m, digV xs m, sigP x k (quoM n m (digV xs m)), sigA x k (quoM n m (digV xs m))) := if_pos h
theorem quoV_no (h : ¬ quoE x k n m xs = 0) : quoV x k n m xs = (0, 0, 0, 0, 0) := if_neg h
theorem quoE_zero (h : quoE x k n m xs = 0) : isM n = true ∧ digE xs m = 0 ∧ secB x = true ∧ secB k = true := by
  cases hn : isM n with
  | false => rw [quoE_no hn] at h; cases h
  | true =>
    by_cases hd : digE xs m = 0
    · rw [quoE_go hn hd] at h
      obtain ⟨h1, h2, _⟩ := sigC_zero h
      exact ⟨rfl, hd, h1, h2⟩
    · rw [quoE_dig hn hd] at h; cases h
theorem quoE_is (x k n m : Int) (xs : List Int) : quoE x k n m xs = 0 ∨ quoE x k n m xs = 1 := by
  cases hn : isM n with
  | false => exact Or.inr (quoE_no hn)
  | true =>
    by_cases hd : digE xs m = 0
    · rw [quoE_go hn hd]; unfold sigC; split <;> simp
    · exact Or.inr (quoE_dig hn hd)
end
/-- A quote that is checked, by a key, for a number. -/
def fitQ (q : Int × Int × Int × Int × Int) (nn : Int) : Bool := isM nn && isM q.1 && isM q.2.2.1 && isMask q.2.1
def rigQ (pub : Int) (q : Int × Int × Int × Int × Int) : Int := rigC pub (quoM q.1 q.2.1 q.2.2.1) q.2.2.2.1 q.2.2.2.2
def chqE (pub : Int) (q : Int × Int × Int × Int × Int) (nn : Int) : Int := if fitQ q nn = true then (if rigQ pub q = 0 then (if q.1 = nn then 0 else 7) else rigQ pub q) else 1
/-- Does it tell of a bank? -/
def telE (q : Int × Int × Int × Int × Int) (xs : List Int) : Int := if isM q.2.2.1 = true then digE xs q.2.1 else 1
def telB (q : Int × Int × Int × Int × Int) (xs : List Int) : Bool := if telE q xs = 0 then decide (digV xs q.2.1 = q.2.2.1) else false
section
variable {pub nn : Int} {q : Int × Int × Int × Int × Int} {xs : List Int}
theorem fitQ_iff : fitQ q nn = true ↔ isM nn = true ∧ isM q.1 = true ∧ isM q.2.2.1 = true ∧ isMask q.2.1 = true := by
  unfold fitQ; rw [Bool.and_eq_true, Bool.and_eq_true, Bool.and_eq_true, and_assoc, and_assoc]
theorem chqE_no (h : fitQ q nn = false) : chqE pub q nn = 1 := by unfold chqE; rw [h]; rfl
theorem chqE_rig (h : fitQ q nn = true) (h2 : ¬ rigQ pub q = 0) : chqE pub q nn = rigQ pub q := by unfold chqE; rw [if_pos h, if_neg h2]
theorem chqE_ok (h : fitQ q nn = true) (h2 : rigQ pub q = 0) (h3 : q.1 = nn) : chqE pub q nn = 0 := by unfold chqE; rw [if_pos h, if_pos h2, if_pos h3]
theorem chqE_else (h : fitQ q nn = true) (h2 : rigQ pub q = 0) (h3 : ¬ q.1 = nn) : chqE pub q nn = 7 := by unfold chqE; rw [if_pos h, if_pos h2, if_neg h3]
theorem telE_no (h : isM q.2.2.1 = false) : telE q xs = 1 := by unfold telE; rw [h]; rfl
theorem telE_ok (h : isM q.2.2.1 = true) : telE q xs = digE xs q.2.1 := if_pos h
theorem telB_ok (h : telE q xs = 0) : telB q xs = decide (digV xs q.2.1 = q.2.2.1) := if_pos h
theorem telB_no (h : ¬ telE q xs = 0) : telB q xs = false := if_neg h
theorem telE_is (q : Int × Int × Int × Int × Int) (xs : List Int) : telE q xs = 0 ∨ telE q xs = 1 := by
  cases h : isM q.2.2.1 with
  | false => exact Or.inr (telE_no h)
  | true => rw [telE_ok h]; exact digE_is _ _
theorem rigQ_is (pub : Int) (q : Int × Int × Int × Int × Int) : rigQ pub q = 0 ∨ rigQ pub q = 8 ∨ rigQ pub q = 1 := by
  rcases rig_chk pub (quoM q.1 q.2.1 q.2.2.1) q.2.2.2.1 q.2.2.2.2 with ⟨h, _⟩ | ⟨h, _⟩ | ⟨h, _⟩
  · exact Or.inl h
  · exact Or.inr (Or.inl h)
  · exact Or.inr (Or.inr h)
end
section
variable {x k n m nn : Int} {xs ys : List Int}
theorem quo_fit (h : quoE x k n m xs = 0) : fitQ (quoV x k n m xs) nn = isM nn := by
  obtain ⟨h1, h2, _, _⟩ := quoE_zero h
  rw [quoV_ok h]
  unfold fitQ
  simp only []
  rw [h1, digV_m, (digE_zero h2).2]
  cases isM nn <;> rfl
theorem quo_rig (h : quoE x k n m xs = 0) : rigQ (pwZ 64 x) (quoV x k n m xs) = 0 := by
  obtain ⟨_, _, hx, hk⟩ := quoE_zero h
  rw [quoV_ok h]
  exact rig_own hx hk (quoM_m _ _ _)
theorem quo_num (h : quoE x k n m xs = 0) : (quoV x k n m xs).1 = n := by rw [quoV_ok h]
theorem quo_mask (h : quoE x k n m xs = 0) : (quoV x k n m xs).2.1 = m := by rw [quoV_ok h]
theorem quo_dig (h : quoE x k n m xs = 0) : (quoV x k n m xs).2.2.1 = digV xs m := by rw [quoV_ok h]
/-- For its number it is right, for no other one. -/
theorem chq_own (h : quoE x k n m xs = 0) : chqE (pwZ 64 x) (quoV x k n m xs) n = 0 :=
  chqE_ok (by rw [quo_fit h]; exact (quoE_zero h).1) (quo_rig h) (quo_num h)
theorem chq_other (h : quoE x k n m xs = 0) (hne : ¬ nn = n) : chqE (pwZ 64 x) (quoV x k n m xs) nn = if isM nn = true then 7 else 1 := by
  cases hm : isM nn with
  | true => rw [chqE_else (by rw [quo_fit h]; exact hm) (quo_rig h) (by rw [quo_num h]; exact fun e => hne e.symm)]; rfl
  | false => rw [chqE_no (by rw [quo_fit h]; exact hm)]; rfl
theorem tel_e (h : quoE x k n m xs = 0) : telE (quoV x k n m xs) ys = digE ys m := by
  rw [telE_ok (by rw [quo_dig h]; exact digV_m _ _), quo_mask h]
theorem tel_b (h : quoE x k n m xs = 0) (hd : digE ys m = 0) : telB (quoV x k n m xs) ys = decide (digV ys m = digV xs m) := by
  rw [telB_ok ((tel_e h).trans hd), quo_mask h, quo_dig h]
theorem tel_ext {i t : Int} (hl : xs.length = 8) (h : quoE x k n m xs = 0) (ho : extOk xs i t = true) : telE (quoV x k n m xs) (extV xs i t) = 0 ∧ telB (quoV x k n m xs) (extV xs i t) = !differ xs (extV xs i t) m := by
  obtain ⟨_, hd, _, _⟩ := quoE_zero h
  have hm := (digE_zero hd).2
  have hd2 := digE_ok (extV_all ho) hm
  exact ⟨(tel_e h).trans hd2, by rw [tel_b h hd2, dig_ext hl ho hm]⟩
end
end Go.Proofs.YtojdaifnljghkabGreatDoor.M
