/-
  Plain mathematics on events: what is wrong with some, the bank they come to, that more go on from where fewer were, and which may change places.
-/
import Derived.Test.YtojdaifnljghkabDoorPack1
namespace Go.Proofs.YtojdaifnljghkabDoor.M
set_option linter.unusedVariables false

/-- An event in its cells: a register and a measure. -/
def evV (e : Int × Int) : List Value := [.int .i64 e.1, .int .i64 e.2]
theorem evV_len (e : Int × Int) : (evV e).length = 2 := rfl
def evOk (e : Int × Int) : Bool := isReg e.1 && isM e.2
def evE (l : List (Int × Int)) : Int := if 30 < l.length then 4 else if l.all evOk = true then 0 else 1
def putR (xs : List Int) (e : Int × Int) : List Int := xs.set e.1.toNat (stp 7919 (xs.getD e.1.toNat 0) e.2)
def repV (l : List (Int × Int)) : List Int := l.foldl putR noBank
theorem evE_full {l : List (Int × Int)} (h : 30 < l.length) : evE l = 4 := if_pos h
theorem evE_ok {l : List (Int × Int)} (h : ¬ 30 < l.length) (ho : l.all evOk = true) : evE l = 0 := by unfold evE; rw [if_neg h, if_pos ho]
theorem evE_bad {l : List (Int × Int)} (h : ¬ 30 < l.length) (ho : l.all evOk = false) : evE l = 1 := by unfold evE; rw [if_neg h, ho]; rfl
theorem evE_zero {l : List (Int × Int)} (h : evE l = 0) : ¬ 30 < l.length ∧ l.all evOk = true := by
  by_cases h1 : 30 < l.length
  · rw [evE_full h1] at h; cases h
  · cases h2 : l.all evOk with
    | true => exact ⟨h1, rfl⟩
    | false => rw [evE_bad h1 h2] at h; cases h
theorem evOk_iff {e : Int × Int} : evOk e = true ↔ isReg e.1 = true ∧ isM e.2 = true := by unfold evOk; rw [Bool.and_eq_true]
theorem putR_len (xs : List Int) (e : Int × Int) : (putR xs e).length = xs.length := by unfold putR; rw [List.length_set]
theorem fold_len : ∀ (l : List (Int × Int)) (xs : List Int), (l.foldl putR xs).length = xs.length
  | [], xs => rfl
  | e :: r, xs => by rw [List.foldl_cons, fold_len r, putR_len]
theorem repV_len (l : List (Int × Int)) : (repV l).length = 8 := fold_len l noBank
theorem repV_nil : repV [] = noBank := rfl
theorem repV_snoc (l : List (Int × Int)) (e : Int × Int) : repV (l ++ [e]) = putR (repV l) e := by unfold repV; rw [List.foldl_append]; rfl
theorem repV_take {l : List (Int × Int)} {k : Nat} {e : Int × Int} (h : l[k]? = some e) : repV (l.take (k + 1)) = putR (repV (l.take k)) e := by rw [take_one h, repV_snoc]
theorem putR_ok {xs : List Int} (h : okAll xs = true) (e : Int × Int) : okAll (putR xs e) = true := by
  refine okAll_of fun k x hx => ?_
  unfold putR at hx
  rw [List.getElem?_set] at hx
  split at hx
  · split at hx
    · cases hx
      exact isM_iff.2 ⟨stp_ge _ _ _, stp_lt _ _ _⟩
    · cases hx
  · exact okAll_at h hx
theorem fold_ok : ∀ (l : List (Int × Int)) (xs : List Int), okAll xs = true → okAll (l.foldl putR xs) = true
  | [], xs, h => h
  | e :: r, xs, h => by rw [List.foldl_cons]; exact fold_ok r _ (putR_ok h e)
theorem repV_ok (l : List (Int × Int)) : okAll (repV l) = true := fold_ok l noBank rfl
/-- One more goes on from where they were: it is the bank extended. -/
theorem rep_ext {l : List (Int × Int)} {e : Int × Int} (h : evOk e = true) : extE (repV l) e.1 e.2 = 0 ∧ extV (repV l) e.1 e.2 = repV (l ++ [e]) := by
  have ho : extOk (repV l) e.1 e.2 = true := extOk_iff.2 ⟨repV_ok l, (evOk_iff.1 h).1, (evOk_iff.1 h).2⟩
  exact ⟨extE_ok ho, by rw [extV_ok ho, repV_snoc]; rfl⟩
/-- Two events of two registers may change places. -/
theorem putR_comm {xs : List Int} {a b : Int × Int} (h : a.1.toNat ≠ b.1.toNat) : putR (putR xs a) b = putR (putR xs b) a := by
  unfold putR
  rw [List.set_comm _ _ h, List.getD_eq_getElem?_getD, List.getD_eq_getElem?_getD, List.getElem?_set_ne h, List.getD_eq_getElem?_getD, List.getD_eq_getElem?_getD, List.getElem?_set_ne (Ne.symm h)]
theorem fold_comm {xs : List Int} {a b : Int × Int} (h : a.1.toNat ≠ b.1.toNat) (l r : List (Int × Int)) : (l ++ a :: b :: r).foldl putR xs = (l ++ b :: a :: r).foldl putR xs := by
  rw [List.foldl_append, List.foldl_append, List.foldl_cons, List.foldl_cons, List.foldl_cons, List.foldl_cons, putR_comm h]
end Go.Proofs.YtojdaifnljghkabDoor.M
