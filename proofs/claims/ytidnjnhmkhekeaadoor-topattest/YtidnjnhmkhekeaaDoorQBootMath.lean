/-
  Plain mathematics on starting images: what is wrong with some, which events there are, how many are started, and the bank; what comes behind one that is not right is neither measured nor started.
-/
import Derived.Test.YtidnjnhmkhekeaaDoorPack1
import Derived.Test.YtidnjnhmkhekeaaDoorPack2
namespace Go.Proofs.YtidnjnhmkhekeaaDoor.M
set_option linter.unusedVariables false

def meaS (s : Sg) : Int := meaV s.nm s.v s.cd
def sldG (q : Int) (s : Sg) : Int := sldE q s.nm s.v s.cd s.p s.a
/-- The first fault of some images; all that may be wrong. -/
def botF : List Sg → Int
  | [] => 0
  | s :: r => if sgE s = 0 then botF r else sgE s
def botE (q : Int) (l : List Sg) : Int := if inB q = true then (if 8 < l.length then 4 else botF l) else 1
/-- The events from a number on, and how many are started. -/
def evL (q : Int) : Nat → List Sg → List (Int × Int)
  | _, [] => []
  | i, s :: r => ((i : Int), meaS s) :: (if sldG q s = 0 then evL q (i + 1) r else [])
def stN (q : Int) : List Sg → Nat
  | [] => 0
  | s :: r => if sldG q s = 0 then stN q r + 1 else 0
def botL (q : Int) (l : List Sg) : List (Int × Int) := if botE q l = 0 then evL q 0 l else []
def botN (q : Int) (l : List Sg) : Nat := if botE q l = 0 then stN q l else 0
def botB (q : Int) (l : List Sg) : List Int := repV (botL q l)
section
variable {q : Int} {l r : List Sg} {s : Sg} {k : Nat}
theorem botF_ok (h : sgE s = 0) : botF (s :: r) = botF r := by rw [botF, if_pos h]
theorem botF_no (h : ¬ sgE s = 0) : botF (s :: r) = sgE s := by rw [botF, if_neg h]
theorem botE_key (h : inB q = false) : botE q l = 1 := by unfold botE; rw [h]; rfl
theorem botE_full (h : inB q = true) (h8 : 8 < l.length) : botE q l = 4 := by unfold botE; rw [if_pos h, if_pos h8]
theorem botE_go (h : inB q = true) (h8 : ¬ 8 < l.length) : botE q l = botF l := by unfold botE; rw [if_pos h, if_neg h8]
theorem botE_zero (h : botE q l = 0) : inB q = true ∧ ¬ 8 < l.length ∧ botF l = 0 := by
  cases h1 : inB q with
  | false => rw [botE_key h1] at h; cases h
  | true =>
    by_cases h8 : 8 < l.length
    · rw [botE_full h1 h8] at h; cases h
    · rw [botE_go h1 h8] at h; exact ⟨rfl, h8, h⟩
theorem botF_all : ∀ {l : List Sg}, botF l = 0 → ∀ s ∈ l, sgE s = 0
  | [], _, s, hs => by cases hs
  | x :: r, h, s, hs => by
    by_cases h0 : sgE x = 0
    · rw [botF_ok h0] at h
      rcases List.mem_cons.1 hs with rfl | hs
      · exact h0
      · exact botF_all h s hs
    · rw [botF_no h0] at h; exact absurd h h0
theorem evL_ok (i : Nat) (h : sldG q s = 0) : evL q i (s :: r) = ((i : Int), meaS s) :: evL q (i + 1) r := by rw [evL, if_pos h]
theorem evL_no (i : Nat) (h : ¬ sldG q s = 0) : evL q i (s :: r) = [((i : Int), meaS s)] := by rw [evL, if_neg h]
theorem stN_ok (h : sldG q s = 0) : stN q (s :: r) = stN q r + 1 := by rw [stN, if_pos h]
theorem stN_no (h : ¬ sldG q s = 0) : stN q (s :: r) = 0 := by rw [stN, if_neg h]
theorem bot_some (h : botE q l = 0) : botL q l = evL q 0 l ∧ botN q l = stN q l := ⟨if_pos h, if_pos h⟩
theorem bot_none (h : ¬ botE q l = 0) : botL q l = [] ∧ botN q l = 0 := ⟨if_neg h, if_neg h⟩
theorem botB_none (h : ¬ botE q l = 0) : botB q l = noBank := by unfold botB; rw [(bot_none h).1]; rfl
theorem bot_nil (q : Int) : botL q [] = [] ∧ botN q [] = 0 ∧ botB q [] = noBank := by
  by_cases h : botE q [] = 0
  · exact ⟨(bot_some h).1, (bot_some h).2, by unfold botB; rw [(bot_some h).1]; rfl⟩
  · exact ⟨(bot_none h).1, (bot_none h).2, botB_none h⟩
theorem evL_len : ∀ (l : List Sg) (i : Nat), (evL q i l).length ≤ l.length
  | [], _ => Nat.le_refl _
  | s :: r, i => by
    by_cases h : sldG q s = 0
    · rw [evL_ok i h, List.length_cons, List.length_cons]; have := evL_len r (i + 1); omega
    · rw [evL_no i h]; simp
theorem botL_len (h8 : botE q l = 0) : (botL q l).length ≤ 8 := by
  rw [(bot_some h8).1]
  have := evL_len (q := q) l 0
  have := (botE_zero h8).2.1
  omega
theorem botL_small (q : Int) (l : List Sg) : (botL q l).length ≤ 8 := by
  by_cases h : botE q l = 0
  · exact botL_len h
  · rw [(bot_none h).1]; simp
/-- A register that no event was of is nought. -/
theorem fold_at : ∀ (es : List (Int × Int)) (xs : List Int) (j : Nat), (∀ e ∈ es, e.1.toNat ≠ j) → (es.foldl putR xs)[j]? = xs[j]?
  | [], xs, j, _ => rfl
  | e :: r, xs, j, h => by
    rw [List.foldl_cons, fold_at r _ j (fun x hx => h x (List.mem_cons_of_mem _ hx))]
    unfold putR
    rw [List.getElem?_set_ne (h e (List.mem_cons_self ..))]
theorem rep_next {es : List (Int × Int)} {k : Nat} {m : Int} (hk : k < 8) (h : ∀ e ∈ es, 0 ≤ e.1 ∧ e.1 < k) : repV (es ++ [((k : Int), m)]) = (repV es).set k (stp 7919 0 m) := by
  rw [repV_snoc]
  unfold putR
  simp only [Int.toNat_natCast]
  have h0 : (repV es).getD k 0 = 0 := by
    rw [List.getD_eq_getElem?_getD]
    unfold repV
    rw [fold_at es noBank k (fun e he => by have := h e he; omega)]
    unfold noBank
    match k, hk with
    | 0, _ => rfl
    | 1, _ => rfl
    | 2, _ => rfl
    | 3, _ => rfl
    | 4, _ => rfl
    | 5, _ => rfl
    | 6, _ => rfl
    | 7, _ => rfl
  rw [h0]
end
end Go.Proofs.YtidnjnhmkhekeaaDoor.M
