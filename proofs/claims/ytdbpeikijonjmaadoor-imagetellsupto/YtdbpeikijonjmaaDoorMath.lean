/-
  Plain mathematics on measures: one step modulo 1000003, a row of numbers taken step by step, a text taken byte by byte; nothing of the program stands here.
-/
import Derived.Below
namespace Go.Proofs.YtdbpeikijonjmaaDoor.M

theorem hide {p : Prop} (h : p) : Go.RowKit.Hid p := h

/-- One step of a measure. -/
def stp (t m n : Int) : Int := (t * m + n + 1) % 1000003
theorem stp_ge (t m n : Int) : 0 ≤ stp t m n := by unfold stp; omega
theorem stp_lt (t m n : Int) : stp t m n < 1000003 := by unfold stp; omega
theorem stp_inj (t m a b : Int) (ha : 0 ≤ a) (ha' : a < 1000003) (hb : 0 ≤ b) (hb' : b < 1000003) (h : stp t m a = stp t m b) : a = b := by
  unfold stp at h
  generalize t * m = q at h
  omega

/-- Is it a measure? -/
def isM (n : Int) : Bool := decide (0 ≤ n ∧ n < 1000003)
theorem isM_iff {n : Int} : isM n = true ↔ 0 ≤ n ∧ n < 1000003 := by unfold isM; simp
theorem isM_false {n : Int} : isM n = false ↔ ¬ (0 ≤ n ∧ n < 1000003) := by unfold isM; simp

/-- Are both measures? -/
def both (a b : Int) : Bool := isM a && isM b
theorem both_left {a b : Int} (h : isM a = true) : both a b = isM b := by unfold both; rw [h]; rfl
theorem both_no {a b : Int} (h : isM a = false) : both a b = false := by unfold both; rw [h]; rfl
theorem both_iff {a b : Int} : both a b = true ↔ isM a = true ∧ isM b = true := by unfold both; rw [Bool.and_eq_true]

/-- A row of numbers, step by step. -/
def allFrom (m : Int) (xs : List Int) : Int := xs.foldl (fun m x => stp 7919 m x) m
def okAll (xs : List Int) : Bool := xs.all isM
theorem take_one {α : Type} {xs : List α} {k : Nat} {x : α} (h : xs[k]? = some x) : xs.take (k + 1) = xs.take k ++ [x] := by
  rw [List.take_add_one, h]; rfl
theorem allFrom_take {m : Int} {xs : List Int} {k : Nat} {x : Int} (h : xs[k]? = some x) : allFrom m (xs.take (k + 1)) = stp 7919 (allFrom m (xs.take k)) x := by
  rw [take_one h]; simp [allFrom]
theorem allFrom_snoc (m : Int) (xs : List Int) (x : Int) : allFrom m (xs ++ [x]) = stp 7919 (allFrom m xs) x := by simp [allFrom]
theorem allFrom_range (m : Int) (xs : List Int) (h0 : 0 ≤ m) (h1 : m < 1000003) : 0 ≤ allFrom m xs ∧ allFrom m xs < 1000003 := by
  unfold allFrom
  induction xs generalizing m with
  | nil => exact ⟨h0, h1⟩
  | cons x r ih => exact ih (stp 7919 m x) (stp_ge _ _ _) (stp_lt _ _ _)
theorem okAll_of {xs : List Int} (h : ∀ (k : Nat) (x : Int), xs[k]? = some x → isM x = true) : okAll xs = true := by
  unfold okAll
  rw [List.all_eq_true]
  intro x hx
  obtain ⟨k, hk, e⟩ := List.mem_iff_getElem.1 hx
  exact h k x (by rw [List.getElem?_eq_getElem hk, e])
theorem okAll_at {xs : List Int} (h : okAll xs = true) {k : Nat} {x : Int} (hx : xs[k]? = some x) : isM x = true := by
  unfold okAll at h
  exact List.all_eq_true.1 h x (List.mem_of_getElem? hx)
theorem okAll_not {xs : List Int} {k : Nat} {x : Int} (hx : xs[k]? = some x) (hb : isM x = false) : okAll xs = false := by
  cases h : okAll xs with
  | false => rfl
  | true => rw [okAll_at h hx] at hb; cases hb
theorem okAll_snoc (xs : List Int) (x : Int) : okAll (xs ++ [x]) = (okAll xs && isM x) := by simp [okAll]

/-- A text, byte by byte. -/
def ofFrom (m : Int) (l : List UInt8) : Int := l.foldl (fun m c => stp 257 m c.toNat) m
theorem ofFrom_take {m : Int} {l : List UInt8} {k : Nat} {c : UInt8} (h : l[k]? = some c) : ofFrom m (l.take (k + 1)) = stp 257 (ofFrom m (l.take k)) c.toNat := by
  rw [take_one h]; simp [ofFrom]
theorem ofFrom_snoc (m : Int) (l : List UInt8) (c : UInt8) : ofFrom m (l ++ [c]) = stp 257 (ofFrom m l) c.toNat := by simp [ofFrom]
theorem ofFrom_range (m : Int) (l : List UInt8) (h0 : 0 ≤ m) (h1 : m < 1000003) : 0 ≤ ofFrom m l ∧ ofFrom m l < 1000003 := by
  unfold ofFrom
  induction l generalizing m with
  | nil => exact ⟨h0, h1⟩
  | cons x r ih => exact ih (stp 257 m x.toNat) (stp_ge _ _ _) (stp_lt _ _ _)
end Go.Proofs.YtdbpeikijonjmaaDoor.M
