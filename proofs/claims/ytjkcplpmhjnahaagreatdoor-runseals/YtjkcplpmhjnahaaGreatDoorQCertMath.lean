/-
  Plain mathematics on certs: the last key of some and what is wrong with them, a cert that was made, certs that each one makes for the next, and that what is right goes on from its first part.
-/
import Derived.Test.YtjkcplpmhjnahaaGreatDoorPack1
import Derived.Test.YtjkcplpmhjnahaaGreatDoorQRec
namespace Go.Proofs.YtjkcplpmhjnahaaGreatDoor.M

/-- A cert: its key, and its seal's point and answer; its cells. -/
def certV (c : Int × Int × Int) : List Value := [.int .i64 c.1, .int .i64 c.2.1, .int .i64 c.2.2]
theorem certV_len (c : Int × Int × Int) : (certV c).length = 3 := rfl
theorem certV_one (c : Int × Int × Int) : ∀ u ∈ certV c, u.oneCell' = true := by
  intro u hu
  simp [certV] at hu
  rcases hu with rfl | rfl | rfl <;> rfl
/-- The last key, and the fault, of certs behind a key that is one. -/
def lastF : Int → List (Int × Int × Int) → Int × Int
  | root, [] => (root, 0)
  | root, c :: r => if inB c.1 = true then (if rigC root c.1 c.2.1 c.2.2 = 0 then lastF c.1 r else (0, rigC root c.1 c.2.1 c.2.2)) else (0, 1)
theorem lastF_nil (root : Int) : lastF root [] = (root, 0) := rfl
theorem lastF_in {root : Int} {c : Int × Int × Int} {r : List (Int × Int × Int)} (h : inB c.1 = false) : lastF root (c :: r) = (0, 1) := by rw [lastF, h]; rfl
theorem lastF_ok {root : Int} {c : Int × Int × Int} {r : List (Int × Int × Int)} (h : inB c.1 = true) (h2 : rigC root c.1 c.2.1 c.2.2 = 0) : lastF root (c :: r) = lastF c.1 r := by rw [lastF, if_pos h, if_pos h2]
theorem lastF_bad {root : Int} {c : Int × Int × Int} {r : List (Int × Int × Int)} (h : inB c.1 = true) (h2 : ¬ rigC root c.1 c.2.1 c.2.2 = 0) : lastF root (c :: r) = (0, rigC root c.1 c.2.1 c.2.2) := by rw [lastF, if_pos h, if_neg h2]
def lastO (root : Int) (l : List (Int × Int × Int)) : Int × Int := if 12 < l.length then (0, 4) else if inB root = true then lastF root l else (0, 1)
def lastV (root : Int) (l : List (Int × Int × Int)) : Int := (lastO root l).1
def lastC (root : Int) (l : List (Int × Int × Int)) : Int := (lastO root l).2
theorem lastO_full {root : Int} {l : List (Int × Int × Int)} (h : 12 < l.length) : lastV root l = 0 ∧ lastC root l = 4 := by unfold lastV lastC lastO; rw [if_pos h]; exact ⟨rfl, rfl⟩
theorem lastO_root {root : Int} {l : List (Int × Int × Int)} (h : ¬ 12 < l.length) (hr : inB root = false) : lastV root l = 0 ∧ lastC root l = 1 := by unfold lastV lastC lastO; rw [if_neg h, hr]; exact ⟨rfl, rfl⟩
theorem lastO_go {root : Int} {l : List (Int × Int × Int)} (h : ¬ 12 < l.length) (hr : inB root = true) : lastV root l = (lastF root l).1 ∧ lastC root l = (lastF root l).2 := by unfold lastV lastC lastO; rw [if_neg h, if_pos hr]; exact ⟨rfl, rfl⟩
theorem lastC_zero {root : Int} {l : List (Int × Int × Int)} (h : lastC root l = 0) : ¬ 12 < l.length ∧ inB root = true ∧ lastF root l = (lastV root l, 0) := by
  by_cases h1 : 12 < l.length
  · rw [(lastO_full h1).2] at h; cases h
  · cases hr : inB root with
    | false => rw [(lastO_root h1 hr).2] at h; cases h
    | true =>
      obtain ⟨e1, e2⟩ := lastO_go (l := l) h1 hr
      exact ⟨h1, rfl, by rw [e1, ← h, e2]⟩
theorem lastV_nil (root : Int) : lastV root [] = (if inB root = true then root else 0) ∧ lastC root [] = (if inB root = true then 0 else 1) := by
  unfold lastV lastC lastO
  rw [if_neg (by simp)]
  cases h : inB root <;> simp [lastF]
/-- What is right goes on from its first part. -/
theorem lastF_split : ∀ (l r : List (Int × Int × Int)) (root n : Int), inB root = true → lastF root (l ++ r) = (n, 0) → ∃ m, inB m = true ∧ lastF root l = (m, 0) ∧ lastF m r = (n, 0)
  | [], r, root, n, hr, h => ⟨root, hr, rfl, h⟩
  | c :: l, r, root, n, hr, h => by
    cases hc : inB c.1 with
    | false =>
      rw [List.cons_append, lastF_in hc] at h
      cases h
    | true =>
      by_cases h2 : rigC root c.1 c.2.1 c.2.2 = 0
      · rw [List.cons_append, lastF_ok hc h2] at h
        obtain ⟨m, h3, h4, h5⟩ := lastF_split l r c.1 n hc h
        exact ⟨m, h3, by rw [lastF_ok hc h2, h4], h5⟩
      · rw [List.cons_append, lastF_bad hc h2] at h
        exact absurd (congrArg Prod.snd h) h2
theorem last_split {root : Int} {l : List (Int × Int × Int)} (k : Nat) (h : lastC root l = 0) :
    lastC root (l.take k) = 0 ∧ lastC (lastV root (l.take k)) (l.drop k) = 0 ∧ lastV (lastV root (l.take k)) (l.drop k) = lastV root l := by
  obtain ⟨h1, h2, h3⟩ := lastC_zero h
  rw [← List.take_append_drop k l] at h3
  obtain ⟨m, h4, h5, h6⟩ := lastF_split _ _ _ _ h2 h3
  rw [List.take_append_drop] at h6
  have e1 := lastO_go (root := root) (l := l.take k) (by simp; omega) h2
  have e2 := lastO_go (root := m) (l := l.drop k) (by simp; omega) h4
  rw [h5] at e1
  rw [h6] at e2
  rw [e1.1]
  exact ⟨e1.2, e2.2, e2.1⟩
/-- A cert that was made: what is wrong, and the cert. -/
def mkC (x k q : Int) : Int := if inB q = true then sigC x k q else 1
def mkV (x k q : Int) : Int × Int × Int := if mkC x k q = 0 then (q, sigP x k q, sigA x k q) else (0, 0, 0)
theorem mkC_ok {x k q : Int} (h : inB q = true) : mkC x k q = sigC x k q := if_pos h
theorem mkC_no {x k q : Int} (h : inB q = false) : mkC x k q = 1 := by unfold mkC; rw [h]; rfl
theorem mkV_ok {x k q : Int} (h : mkC x k q = 0) : mkV x k q = (q, sigP x k q, sigA x k q) := if_pos h
theorem mkV_no {x k q : Int} (h : ¬ mkC x k q = 0) : mkV x k q = (0, 0, 0) := if_neg h
theorem mk_own {x k y : Int} (hx : secB x = true) (hk : secB k = true) : mkC x k (pwZ 64 y) = 0 := by
  rw [mkC_ok (pwZ_in y), sigC_ok hx hk (inB_isM (pwZ_in y))]
theorem mk_not {x k y : Int} (hx : secB x = true) (h : ¬ mkC x k (pwZ 64 y) = 0) : k < 1 ∨ 256 < k := by
  cases hk : secB k with
  | true => exact absurd (mk_own hx hk) h
  | false => have := secB_not.1 hk; omega
/-- It is right by the key of who made it. -/
theorem rig_own {x k m : Int} (hx : secB x = true) (hk : secB k = true) (hm : isM m = true) : rigC (pwZ 64 x) m (sigP x k m) (sigA x k m) = 0 := by
  rw [sigP_ok hx hk hm]
  refine rigC_yes (formB_iff.2 ⟨pwZ_in x, pwZ_in k, hm, sigA_ans⟩) ?_
  rw [says_own hx hk hm sigA_ans]
  exact decide_eq_true rfl
/-- Certs that each one makes for the next. -/
def chainC (k : Int) : List Int → List (Int × Int × Int)
  | [] => []
  | [_] => []
  | s :: t :: r => mkV s k (pwZ 64 t) :: chainC k (t :: r)
theorem chain_snoc (k : Int) : ∀ (l : List Int) (s t : Int), chainC k (l ++ [s, t]) = chainC k (l ++ [s]) ++ [mkV s k (pwZ 64 t)]
  | [], s, t => rfl
  | [a], s, t => rfl
  | a :: b :: l, s, t => by
    have h := chain_snoc k (b :: l) s t
    simp only [List.cons_append, chainC] at h ⊢
    rw [h]
theorem chain_len (k : Int) : ∀ (l : List Int), (chainC k l).length = l.length - 1
  | [] => rfl
  | [_] => rfl
  | s :: t :: r => by
    have h := chain_len k (t :: r)
    simp only [chainC, List.length_cons] at h ⊢
    omega
theorem chain_last {k : Int} (hk : secB k = true) : ∀ (l : List Int) (s : Int), (∀ x ∈ s :: l, secB x = true) → lastF (pwZ 64 s) (chainC k (s :: l)) = (pwZ 64 ((s :: l).getLastD 0), 0)
  | [], s, h => rfl
  | t :: r, s, h => by
    have hs := h s (by simp)
    have ht : ∀ x ∈ t :: r, secB x = true := fun x hx => h x (List.mem_cons_of_mem _ hx)
    have hm := inB_isM (pwZ_in t)
    have e := mkV_ok (mk_own (y := t) hs hk)
    have h2 := chain_last hk r t ht
    rw [chainC, e, lastF_ok (c := (pwZ 64 t, sigP s k (pwZ 64 t), sigA s k (pwZ 64 t))) (pwZ_in t) (rig_own hs hk hm)]
    simpa using h2
end Go.Proofs.YtjkcplpmhjnahaaGreatDoor.M
