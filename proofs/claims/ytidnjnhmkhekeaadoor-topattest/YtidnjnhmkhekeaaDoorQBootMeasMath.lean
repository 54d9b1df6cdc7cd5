/-
  Plain mathematics on started images: each event is of its register and of its image, started just if it is right; fewer images come to the beginning of it; the bank register by register.
-/
import Derived.Test.YtidnjnhmkhekeaaDoorQBootMath
namespace Go.Proofs.YtidnjnhmkhekeaaDoor.M
set_option linter.unusedVariables false
section
variable {q : Int}
theorem evL_get : ∀ (l : List Sg) (i j : Nat), j < (evL q i l).length → ∃ s, l[j]? = some s ∧ (evL q i l)[j]? = some (((i + j : Nat) : Int), meaS s) ∧ (sldG q s = 0 ↔ j < stN q l)
  | [], i, j, h => by simp [evL] at h
  | s :: r, i, j, h => by
    by_cases h0 : sldG q s = 0
    · rw [evL_ok i h0] at h ⊢
      rw [stN_ok h0]
      match j, h with
      | 0, _ => exact ⟨s, rfl, rfl, ⟨fun _ => by omega, fun _ => h0⟩⟩
      | j + 1, h =>
        obtain ⟨t, h1, h2, h3⟩ := evL_get r (i + 1) j (by simpa using h)
        refine ⟨t, by simpa using h1, ?_, h3.trans ⟨fun x => by omega, fun x => by omega⟩⟩
        rw [List.getElem?_cons_succ, h2, show i + 1 + j = i + (j + 1) by omega]
    · rw [evL_no i h0] at h ⊢
      rw [stN_no h0]
      match j, h with
      | 0, _ => exact ⟨s, rfl, rfl, ⟨fun x => absurd x h0, fun x => by omega⟩⟩
      | j + 1, h => simp at h
theorem evL_many : ∀ (l : List Sg) (i : Nat), (evL q i l).length ≤ stN q l + 1 ∧ stN q l ≤ (evL q i l).length ∧ stN q l ≤ l.length ∧ (stN q l < l.length → (evL q i l).length = stN q l + 1)
  | [], i => by simp [evL, stN]
  | s :: r, i => by
    by_cases h0 : sldG q s = 0
    · rw [evL_ok i h0, stN_ok h0]
      obtain ⟨h1, h2, h3, h4⟩ := evL_many r (i + 1)
      refine ⟨by simp; omega, by simp; omega, by simp; omega, fun h => ?_⟩
      rw [List.length_cons, h4 (by simp at h; omega)]
    · rw [evL_no i h0, stN_no h0]
      simp
theorem evL_take : ∀ (l : List Sg) (i c : Nat), evL q i (l.take c) = (evL q i l).take c
  | [], i, c => by simp [evL]
  | s :: r, i, 0 => by simp [evL]
  | s :: r, i, c + 1 => by
    rw [List.take_succ_cons]
    by_cases h0 : sldG q s = 0
    · rw [evL_ok i h0, evL_ok i h0, List.take_succ_cons, evL_take r (i + 1) c]
    · rw [evL_no i h0, evL_no i h0, List.take_succ_cons, List.take_nil]
theorem stN_take : ∀ (l : List Sg) (c : Nat), stN q (l.take c) ≤ stN q l
  | [], c => by simp [stN]
  | s :: r, 0 => by simp [stN]
  | s :: r, c + 1 => by
    rw [List.take_succ_cons]
    by_cases h0 : sldG q s = 0
    · rw [stN_ok h0, stN_ok h0]; have := stN_take r c; omega
    · rw [stN_no h0]; omega
theorem botF_take : ∀ (l : List Sg) (c : Nat), botF l = 0 → botF (l.take c) = 0
  | [], c, _ => by simp [botF]
  | s :: r, 0, _ => by simp [botF]
  | s :: r, c + 1, h => by
    rw [List.take_succ_cons]
    by_cases h0 : sgE s = 0
    · rw [botF_ok h0] at h ⊢; exact botF_take r c h
    · rw [botF_no h0] at h; exact absurd h h0
theorem botE_take {l : List Sg} (c : Nat) (h : botE q l = 0) : botE q (l.take c) = 0 := by
  obtain ⟨h1, h2, h3⟩ := botE_zero h
  rw [botE_go h1 (by rw [List.length_take]; omega)]
  exact botF_take l c h3
/-- The bank that events of the first registers come to, register by register. -/
theorem rep_get {es : List (Int × Int)} (hlen : es.length ≤ 8) (hreg : ∀ (t : Nat) (e : Int × Int), es[t]? = some e → e.1 = t) {j : Nat} {e : Int × Int} (h : es[j]? = some e) : (repV es)[j]? = some (stp 7919 0 e.2) := by
  have hj : j < es.length := (List.getElem?_eq_some_iff.1 h).1
  have he : e = ((j : Int), e.2) := by rw [← hreg j e h]
  have h1 : repV es = (es.drop (j + 1)).foldl putR (repV (es.take (j + 1))) := by
    unfold repV
    rw [← List.foldl_append, List.take_append_drop]
  rw [h1, fold_at _ _ j (fun x hx => by
    obtain ⟨t, ht⟩ := List.getElem?_of_mem hx
    rw [List.getElem?_drop] at ht
    have := hreg _ _ ht
    omega), take_one h, he, rep_next (by omega) (fun x hx => by
    obtain ⟨t, ht⟩ := List.getElem?_of_mem hx
    rw [List.getElem?_take] at ht
    split at ht
    · have := hreg _ _ ht; omega
    · cases ht), List.getElem?_set_self (by rw [repV_len]; omega)]
theorem evL_reg (l : List Sg) (t : Nat) (e : Int × Int) (h : (evL q 0 l)[t]? = some e) : e.1 = t := by
  obtain ⟨s, _, h2, _⟩ := evL_get (q := q) l 0 t (List.getElem?_eq_some_iff.1 h).1
  rw [h] at h2
  cases h2
  simp
theorem evL_ok_all {l : List Sg} (h8 : l.length ≤ 8) : evE (evL q 0 l) = 0 := by
  have hlen := evL_len (q := q) l 0
  refine evE_ok (by omega) (List.all_eq_true.2 fun e he => ?_)
  obtain ⟨t, ht⟩ := List.getElem?_of_mem he
  obtain ⟨s, _, h2, _⟩ := evL_get (q := q) l 0 t (List.getElem?_eq_some_iff.1 ht).1
  have hlt := (List.getElem?_eq_some_iff.1 ht).1
  rw [ht] at h2
  cases h2
  exact evOk_iff.2 ⟨isReg_iff.2 ⟨by simp, by simp; omega⟩, mea_is _ _ _⟩
end
end Go.Proofs.YtidnjnhmkhekeaaDoor.M
