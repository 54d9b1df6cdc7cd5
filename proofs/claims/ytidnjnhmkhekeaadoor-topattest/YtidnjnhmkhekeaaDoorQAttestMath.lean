/-
  Plain mathematics on a row of images that are all right: all are started, register by register; rules of just what they come to, and who fits them.
-/
import Derived.Test.YtidnjnhmkhekeaaDoorQBootMeasMath
import Derived.Test.YtidnjnhmkhekeaaDoorPack1
import Derived.Test.YtidnjnhmkhekeaaDoorQKeeperMath
namespace Go.Proofs.YtidnjnhmkhekeaaDoor.M
set_option linter.unusedVariables false

/-- An image, signed. -/
def mkG (x k : Int) (m : ByteArray × Int × ByteArray) : Sg := ⟨m.1, m.2.1, m.2.2, sigP x k (meaV m.1 m.2.1 m.2.2), sigA x k (meaV m.1 m.2.1 m.2.2)⟩
def okG (x k : Int) (m : ByteArray × Int × ByteArray) : Prop := sgnE x k m.1 m.2.1 m.2.2 = 0
def rightG (q : Int) (s : Sg) : Prop := sgE s = 0 ∧ sldG q s = 0
theorem mkG_right {x k : Int} {m : ByteArray × Int × ByteArray} (h : okG x k m) : rightG (pwZ 64 x) (mkG x k m) := ⟨(sgnE_zero h).1, sld_own h⟩
theorem okG_keys {x k : Int} {m : ByteArray × Int × ByteArray} (h : okG x k m) : secB x = true ∧ secB k = true := by
  obtain ⟨h1, h2, _⟩ := sigC_zero (sgnE_zero h).2
  exact ⟨h1, h2⟩
section
variable {q : Int}
theorem right_botF : ∀ {l : List Sg}, (∀ s ∈ l, rightG q s) → botF l = 0
  | [], _ => rfl
  | s :: r, h => by rw [botF_ok (h s (List.mem_cons_self ..)).1]; exact right_botF (fun t ht => h t (List.mem_cons_of_mem _ ht))
theorem right_stN : ∀ {l : List Sg}, (∀ s ∈ l, rightG q s) → stN q l = l.length
  | [], _ => rfl
  | s :: r, h => by rw [stN_ok (h s (List.mem_cons_self ..)).2, right_stN (fun t ht => h t (List.mem_cons_of_mem _ ht))]; rfl
theorem right_evL : ∀ {l : List Sg} (i : Nat), (∀ s ∈ l, rightG q s) → (evL q i l).length = l.length
  | [], _, _ => rfl
  | s :: r, i, h => by rw [evL_ok i (h s (List.mem_cons_self ..)).2, List.length_cons, right_evL (i + 1) (fun t ht => h t (List.mem_cons_of_mem _ ht))]; rfl
/-- All that a row of images that are right comes to. -/
theorem right_bot {l : List Sg} (hq : inB q = true) (h8 : l.length ≤ 8) (h : ∀ s ∈ l, rightG q s) : botE q l = 0 ∧ botN q l = l.length ∧ (botL q l).length = l.length ∧ evE (botL q l) = 0 ∧ botB q l = repV (botL q l) := by
  have h0 : botE q l = 0 := by rw [botE_go hq (by omega)]; exact right_botF h
  obtain ⟨h1, h2⟩ := bot_some h0
  refine ⟨h0, by rw [h2]; exact right_stN h, by rw [h1]; exact right_evL 0 h, by rw [h1]; exact evL_ok_all h8, rfl⟩
/-- Behind the last image the bank is nought. -/
theorem right_zero {l : List Sg} (h8 : l.length ≤ 8) (h : ∀ s ∈ l, rightG q s) {j : Nat} (hj : l.length ≤ j) (hj8 : j < 8) : (repV (evL q 0 l)).getD j 0 = 0 := by
  rw [List.getD_eq_getElem?_getD]
  unfold repV
  rw [fold_at _ noBank j (fun e he => by
    obtain ⟨t, ht⟩ := List.getElem?_of_mem he
    have h1 := evL_reg l t e ht
    have h2 := (List.getElem?_eq_some_iff.1 ht).1
    rw [right_evL 0 h] at h2
    omega)]
  unfold noBank
  match j, hj8 with
  | 0, _ => rfl
  | 1, _ => rfl
  | 2, _ => rfl
  | 3, _ => rfl
  | 4, _ => rfl
  | 5, _ => rfl
  | 6, _ => rfl
  | 7, _ => rfl
end
/-- Rules of just what a bank has in its first registers. -/
def rulesOf (b : List Int) (n : Nat) : List (Int × List Int) := (List.range n).map fun (j : Nat) => ((j : Int), [b.getD j 0])
theorem rulesOf_succ (b : List Int) (n : Nat) : rulesOf b (n + 1) = rulesOf b n ++ [((n : Int), [b.getD n 0])] := by
  unfold rulesOf
  rw [List.range_succ, List.map_append]
  rfl
theorem rulesOf_len (b : List Int) (n : Nat) : (rulesOf b n).length = n := by unfold rulesOf; simp
theorem rulesF_of : ∀ (l : List (Int × List Int)) (prev : List Int), (∀ c ∈ l, isReg c.1 = true ∧ ¬ 12 < c.2.length ∧ okAll c.2 = true) → (prev ++ l.map (·.1)).Nodup → rulesF prev l = 0
  | [], prev, _, _ => rfl
  | c :: t, prev, h, hn => by
    obtain ⟨h1, h2, h3⟩ := h c (List.mem_cons_self ..)
    have hc : prev.contains c.1 = false := by
      cases hb : prev.contains c.1 with
      | false => rfl
      | true =>
        have hm := List.contains_iff_mem.1 hb
        rw [List.nodup_append] at hn
        exact absurd rfl (hn.2.2 c.1 hm c.1 (by simp))
    rw [rulesF_ok (ruleE_ok h1 h2 h3 hc)]
    refine rulesF_of t _ (fun d hd => h d (List.mem_cons_of_mem _ hd)) ?_
    rw [List.append_assoc]
    exact hn
theorem getD_ok {b : List Int} (h : okAll b = true) (j : Nat) : isM (b.getD j 0) = true := by
  rw [List.getD_eq_getElem?_getD]
  cases hx : b[j]? with
  | none => rfl
  | some v => exact okAll_at h hx
theorem rulesOf_ok {b : List Int} {n : Nat} (h : okAll b = true) (hn : n ≤ 8) : rulesE (rulesOf b n) = 0 := by
  rw [rulesE_go (by rw [rulesOf_len]; omega)]
  refine rulesF_of _ [] (fun c hc => ?_) ?_
  · unfold rulesOf at hc
    obtain ⟨j, hj, rfl⟩ := List.mem_map.1 hc
    have hj' := List.mem_range.1 hj
    refine ⟨isReg_iff.2 ⟨by simp, by simp; omega⟩, by simp, ?_⟩
    simp only [okAll, List.all_cons, List.all_nil, Bool.and_true]
    exact getD_ok h j
  · rw [List.nil_append]
    unfold rulesOf
    rw [List.map_map]
    have hr : (List.range n).Pairwise (fun a b => a ≠ b) := List.nodup_range
    exact hr.map _ (fun a b hab e => hab (Int.ofNat.inj e))
theorem fits_of {b c : List Int} {n : Nat} : fitsB (rulesOf b n) c = true ↔ ∀ j, j < n → c.getD j 0 = b.getD j 0 := by
  unfold fitsB rulesOf
  rw [List.all_eq_true]
  constructor
  · intro h j hj
    have := h _ (List.mem_map.2 ⟨j, List.mem_range.2 hj, rfl⟩)
    simpa using this
  · intro h e he
    obtain ⟨j, hj, rfl⟩ := List.mem_map.1 he
    have := h j (List.mem_range.1 hj)
    simpa using this
theorem all255 (am : Int) : allB 255 am 8 = true := by
  have hb : ∀ i : Fin 8, bit 255 i.val = true := by decide
  unfold allB
  rw [List.all_eq_true]
  intro i hi
  rw [hb ⟨i, List.mem_range.1 hi⟩]
  simp
theorem list8 {b c : List Int} (hb : b.length = 8) (hc : c.length = 8) (h : ∀ j, j < 8 → c.getD j 0 = b.getD j 0) : c = b := by
  apply List.ext_getElem (by omega)
  intro j h1 h2
  have := h j (by omega)
  rw [List.getD_eq_getElem?_getD, List.getD_eq_getElem?_getD, List.getElem?_eq_getElem h1, List.getElem?_eq_getElem h2] at this
  simpa using this
/-- Two rows of as many images that are right: the second one fits the first one's rules just where both come to the same bank. -/
theorem fits_same_bank {q : Int} {l l2 : List Sg} (h8 : l.length ≤ 8) (hl : l2.length = l.length) (h : ∀ s ∈ l, rightG q s) (h2 : ∀ s ∈ l2, rightG q s) :
    fitsB (rulesOf (repV (evL q 0 l)) l.length) (repV (evL q 0 l2)) = decide (repV (evL q 0 l2) = repV (evL q 0 l)) := by
  rw [Bool.eq_iff_iff, fits_of, decide_eq_true_iff]
  constructor
  · intro hh
    refine list8 (repV_len _) (repV_len _) (fun j hj => ?_)
    by_cases hjl : j < l.length
    · exact hh j hjl
    · rw [right_zero h8 h (by omega) hj, right_zero (by omega) h2 (by omega) hj]
  · intro hh j _
    rw [hh]
theorem quo_some {x k n m : Int} {xs : List Int} (hx : secB x = true) (hk : secB k = true) (hn : isM n = true) (hd : digE xs m = 0) : quoE x k n m xs = 0 := by
  rw [quoE_go hn hd]
  exact sigC_ok hx hk (quoM_m _ _ _)
/-- A question, answered: given just where it is sure. -/
theorem once_k {s : KS} {q : Int × Int × Int × Int × Int} {es : List (Int × Int)} {n se : Int} (hx : s.xs = [n]) (hq : q.1 = n) (hs : surE s.pub q n es s.rl = se) :
    givE s q es = se ∧ givV s q es = (if se = 0 then s.sec else 0) ∧ (givT s q es).xs = [] := by
  have h1 : givE s q es = se := by rw [givE_in (by rw [hq, hx]; simp), hq]; exact hs
  refine ⟨h1, by unfold givV; rw [h1], ?_⟩
  show s.xs.erase q.1 = []
  rw [hq, hx]
  simp
end Go.Proofs.YtidnjnhmkhekeaaDoor.M
