/-
  Plain mathematics on a row of secrets whose certs each one makes for the next: how one more goes on, and what it comes to.
-/
import Derived.Test.YtojdaifnljghkabGreatDoorPack1
namespace Go.Proofs.YtojdaifnljghkabGreatDoor.M

/-- The first key of some secrets, and the last. -/
def fstK : List Int → Int
  | [] => 0
  | s :: _ => pwZ 64 s
def lstK : List Int → Int
  | [] => 0
  | s :: r => pwZ 64 ((s :: r).getLastD 0)
theorem fst_take_zero (xs : List Int) : fstK (xs.take 0) = 0 ∧ lstK (xs.take 0) = 0 ∧ ∀ k, chainC k (xs.take 0) = [] := ⟨rfl, rfl, fun _ => rfl⟩
theorem lst_snoc (l : List Int) (x : Int) : lstK (l ++ [x]) = pwZ 64 x := by
  cases l with
  | nil => rfl
  | cons a r =>
    have e : ((a :: r) ++ [x]).getLast? = some x := List.getLast?_concat
    rw [List.cons_append] at e ⊢
    show pwZ 64 ((a :: (r ++ [x])).getLastD 0) = pwZ 64 x
    rw [List.getLastD_eq_getLast?, e]
    rfl
theorem lst_take {xs : List Int} {k : Nat} {x : Int} (h : xs[k]? = some x) : lstK (xs.take (k + 1)) = pwZ 64 x := by rw [take_one h, lst_snoc]
theorem fst_take_one {xs : List Int} {x : Int} (h : xs[0]? = some x) : fstK (xs.take 1) = pwZ 64 x := by
  have e := take_one h
  rw [Nat.zero_add] at e
  rw [e]
  rfl
theorem fst_take {xs : List Int} {k : Nat} {x : Int} (h : xs[k]? = some x) (hk : 0 < k) : fstK (xs.take (k + 1)) = fstK (xs.take k) := by
  rw [take_one h]
  cases xs with
  | nil => simp at h
  | cons a r =>
    cases k with
    | zero => omega
    | succ k => rfl
theorem chain_take_one (kk : Int) (xs : List Int) : chainC kk (xs.take 1) = [] := by
  match xs with
  | [] => rfl
  | [a] => rfl
  | a :: b :: r => rfl
theorem chain_take {kk : Int} {xs : List Int} {k : Nat} {s x : Int} (hs : xs[k]? = some s) (hx : xs[k + 1]? = some x) : chainC kk (xs.take (k + 1 + 1)) = chainC kk (xs.take (k + 1)) ++ [mkV s kk (pwZ 64 x)] := by
  rw [take_one hx, take_one hs, List.append_assoc, List.singleton_append, chain_snoc]
theorem mkC_two (x k q : Int) : mkC x k q = 0 ∨ mkC x k q = 1 := by
  unfold mkC
  split
  · unfold sigC
    split <;> simp
  · exact Or.inr rfl
/-- Once it is through: there was none; or the last key behind the first is the last. -/
theorem chain_out {kk : Int} {t : List Int} (ha : ∀ x ∈ t, secB x = true) (hk : 2 ≤ t.length → secB kk = true) (hl : t.length ≤ 10) :
    fstK t = 0 ∨ (0 < fstK t ∧ lastC (fstK t) (chainC kk t) = 0 ∧ lastV (fstK t) (chainC kk t) = lstK t) := by
  cases t with
  | nil => exact Or.inl rfl
  | cons s r =>
    refine Or.inr ?_
    have hin := pwZ_in s
    have h0 : (0 : Int) < pwZ 64 s := by have := (inB_iff.1 hin).1; omega
    have hlen : ¬ 12 < (chainC kk (s :: r)).length := by rw [chain_len]; simp at hl ⊢; omega
    have hF : lastF (pwZ 64 s) (chainC kk (s :: r)) = (pwZ 64 ((s :: r).getLastD 0), 0) := by
      cases r with
      | nil => rfl
      | cons u v => exact chain_last (hk (by simp)) (u :: v) s ha
    obtain ⟨e1, e2⟩ := lastO_go hlen hin
    rw [hF] at e1 e2
    exact ⟨h0, e2, e1⟩
end Go.Proofs.YtojdaifnljghkabGreatDoor.M
