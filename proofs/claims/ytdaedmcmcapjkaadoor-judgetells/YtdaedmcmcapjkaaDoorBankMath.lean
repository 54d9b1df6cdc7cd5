/-
  Plain mathematics on banks of registers: a bank's cells, which registers a mask asks for, a bank's fault, what is extended, a digest, and whether two banks are alike; and what memory holds of a bank that was laid in a block.
-/
import Derived.Test.YtdaedmcmcapjkaaDoorInts
import Derived.Laws.Rows
import Derived.Laws.BitsLemmas
namespace Go.Proofs.YtdaedmcmcapjkaaDoor.M
open Go.RowKit

/-- A bank's cells. -/
def bankC (xs : List Int) : Array Value := (xs.map (Value.int .i64)).toArray
theorem bankC_size (xs : List Int) : (bankC xs).size = xs.length := by simp [bankC]
theorem bankC_at {xs : List Int} {k : Nat} {x : Int} (h : xs[k]? = some x) : (bankC xs)[k]? = some (.int .i64 x) := by simp [bankC, h]
theorem bankC_set (xs : List Int) (k : Nat) (x : Int) : (bankC xs).setIfInBounds k (.int .i64 x) = bankC (xs.set k x) := by
  unfold bankC
  apply Array.ext'
  simp [List.map_set]
theorem bankC_inj {xs ys : List Int} (h : bankC xs = bankC ys) : xs = ys := by
  unfold bankC at h
  have h1 := congrArg Array.toList h
  simp only [] at h1
  exact (List.map_inj_right (fun a b e => by cases e; rfl)).1 h1

/-- Does a mask ask for a register? -/
def bit (m : Int) (k : Nat) : Bool := decide (m / 2 ^ k % 2 = 1)
theorem and_one (n : Int) : bits .and .i64 n 1 = n % 2 := by
  have h1 : (BitVec.ofInt 64 1).toNat = 2 ^ 1 - 1 := by decide
  have key : (BitVec.ofInt 64 n &&& BitVec.ofInt 64 1).toNat = (n % ((2 ^ 64 : Nat) : Int)).toNat % 2 ^ 1 := by
    rw [BitVec.toNat_and, BitVec.toNat_ofInt, h1, Nat.and_two_pow_sub_one_eq_mod]
  show IntKind.i64.wrap ((BitVec.ofInt 64 n &&& BitVec.ofInt 64 1).toNat : Nat) = n % 2
  rw [key, IntKind.wrap_i64]
  omega
theorem bit_yes {m : Int} {k : Nat} (h : bit m k = true) : bits .and .i64 (m / 2 ^ k) 1 = 1 := by
  rw [and_one]; unfold bit at h; simpa using h
theorem bit_no {m : Int} {k : Nat} (h : bit m k = false) : bits .and .i64 (m / 2 ^ k) 1 = 0 := by
  rw [and_one]; unfold bit at h
  have h1 : ¬ (m / 2 ^ k % 2 = 1) := by simpa using h
  generalize m / 2 ^ k = q at h1 ⊢
  omega
def isMask (m : Int) : Bool := decide (0 ≤ m ∧ m ≤ 255)
theorem isMask_iff {m : Int} : isMask m = true ↔ 0 ≤ m ∧ m ≤ 255 := by unfold isMask; simp
theorem isMask_false {m : Int} : isMask m = false ↔ ¬ (0 ≤ m ∧ m ≤ 255) := by unfold isMask; simp
/-- The registers that a mask asks for, below n. -/
def askedL (m : Int) (n : Nat) : List Int := ((List.range n).filter (bit m)).map fun k : Nat => (k : Int)
theorem askedL_zero (m : Int) : askedL m 0 = [] := rfl
theorem askedL_hit {m : Int} {n : Nat} (h : bit m n = true) : askedL m (n + 1) = askedL m n ++ [(n : Int)] := by simp [askedL, List.range_succ, h]
theorem askedL_miss {m : Int} {n : Nat} (h : bit m n = false) : askedL m (n + 1) = askedL m n := by simp [askedL, List.range_succ, h]
theorem askedL_len (m : Int) (n : Nat) : (askedL m n).length ≤ n := by
  unfold askedL
  rw [List.length_map]
  exact Nat.le_trans (List.length_filter_le _ _) (by simp)
theorem askedL_mem {m : Int} {n : Nat} {i : Int} (h : i ∈ askedL m n) : ∃ k : Nat, k < n ∧ i = k ∧ bit m k = true := by
  unfold askedL at h
  obtain ⟨k, hk, rfl⟩ := List.mem_map.1 h
  rw [List.mem_filter] at hk
  exact ⟨k, List.mem_range.1 hk.1, rfl, hk.2⟩
theorem askedL_of {m : Int} {n k : Nat} (hk : k < n) (h : bit m k = true) : (k : Int) ∈ askedL m n :=
  List.mem_map.2 ⟨k, List.mem_filter.2 ⟨List.mem_range.2 hk, h⟩, rfl⟩

/-- Those of a bank. -/
def pick (xs : List Int) (is : List Int) : List Int := is.map fun i => xs.getD i.toNat 0
theorem pick_take {xs is : List Int} {k : Nat} {i x : Int} (h : is[k]? = some i) (hx : xs[i.toNat]? = some x) : pick xs (is.take (k + 1)) = pick xs (is.take k) ++ [x] := by
  rw [take_one h]
  simp [pick, hx]
theorem pick_len (xs is : List Int) : (pick xs is).length = is.length := by simp [pick]
theorem pick_ok {xs : List Int} (h : okAll xs = true) (hl : xs.length = 8) (m : Int) : okAll (pick xs (askedL m 8)) = true := by
  refine okAll_of fun k x hx => ?_
  simp only [pick, List.getElem?_map, Option.map_eq_some_iff] at hx
  obtain ⟨i, hi, rfl⟩ := hx
  obtain ⟨j, hj, rfl, _⟩ := askedL_mem (List.mem_of_getElem? hi)
  have : xs[j]? = some (xs[j]'(by omega)) := List.getElem?_eq_getElem (by omega)
  simp only [Int.toNat_natCast, List.getD_eq_getElem?_getD, this, Option.getD_some]
  exact okAll_at h this

/-- A bank's fault; a digest's, and it; likeness. -/
def bankE (xs : List Int) : Int := if okAll xs = true then 0 else 1
def digE (xs : List Int) (m : Int) : Int := if okAll xs = true ∧ isMask m = true then 0 else 1
def digV (xs : List Int) (m : Int) : Int := if okAll xs = true ∧ isMask m = true then allFrom 0 (pick xs (askedL m 8)) else 0
def sameE (xs ys : List Int) (m : Int) : Int := if okAll xs = true ∧ okAll ys = true ∧ isMask m = true then 0 else 1
def differ (xs ys : List Int) (m : Int) : Bool := (askedL m 8).any fun i => xs.getD i.toNat 0 != ys.getD i.toNat 0
def sameV (xs ys : List Int) (m : Int) : Bool := if okAll xs = true ∧ okAll ys = true ∧ isMask m = true then !differ xs ys m else false
theorem bankE_ok {xs : List Int} (h : okAll xs = true) : bankE xs = 0 := if_pos h
theorem bankE_bad {xs : List Int} (h : okAll xs = false) : bankE xs = 1 := if_neg (by rw [h]; exact Bool.false_ne_true)
theorem digE_ok {xs : List Int} {m : Int} (h : okAll xs = true) (hm : isMask m = true) : digE xs m = 0 := if_pos ⟨h, hm⟩
theorem digV_ok {xs : List Int} {m : Int} (h : okAll xs = true) (hm : isMask m = true) : digV xs m = allFrom 0 (pick xs (askedL m 8)) := if_pos ⟨h, hm⟩
theorem digE_bad {xs : List Int} {m : Int} (h : ¬ (okAll xs = true ∧ isMask m = true)) : digE xs m = 1 := if_neg h
theorem digV_bad {xs : List Int} {m : Int} (h : ¬ (okAll xs = true ∧ isMask m = true)) : digV xs m = 0 := if_neg h
theorem sameE_ok {xs ys : List Int} {m : Int} (h : okAll xs = true) (h' : okAll ys = true) (hm : isMask m = true) : sameE xs ys m = 0 := if_pos ⟨h, h', hm⟩
theorem sameV_ok {xs ys : List Int} {m : Int} (h : okAll xs = true) (h' : okAll ys = true) (hm : isMask m = true) : sameV xs ys m = !differ xs ys m := if_pos ⟨h, h', hm⟩
theorem sameE_bad {xs ys : List Int} {m : Int} (h : ¬ (okAll xs = true ∧ okAll ys = true ∧ isMask m = true)) : sameE xs ys m = 1 := if_neg h
theorem sameV_bad {xs ys : List Int} {m : Int} (h : ¬ (okAll xs = true ∧ okAll ys = true ∧ isMask m = true)) : sameV xs ys m = false := if_neg h
/-- Extended: its fault, and the bank. -/
def isReg (i : Int) : Bool := decide (0 ≤ i ∧ i < 8)
theorem isReg_iff {i : Int} : isReg i = true ↔ 0 ≤ i ∧ i < 8 := by unfold isReg; simp
theorem isReg_false {i : Int} : isReg i = false ↔ ¬ (0 ≤ i ∧ i < 8) := by unfold isReg; simp
def extOk (xs : List Int) (i m : Int) : Bool := okAll xs && (isReg i && isM m)
theorem extOk_iff {xs : List Int} {i m : Int} : extOk xs i m = true ↔ okAll xs = true ∧ isReg i = true ∧ isM m = true := by unfold extOk; rw [Bool.and_eq_true, Bool.and_eq_true]
def extE (xs : List Int) (i m : Int) : Int := if extOk xs i m = true then 0 else 1
def noBank : List Int := [0, 0, 0, 0, 0, 0, 0, 0]
def extV (xs : List Int) (i m : Int) : List Int := if extOk xs i m = true then xs.set i.toNat (stp 7919 (xs.getD i.toNat 0) m) else noBank
theorem extE_ok {xs : List Int} {i m : Int} (h : extOk xs i m = true) : extE xs i m = 0 := if_pos h
theorem extV_ok {xs : List Int} {i m : Int} (h : extOk xs i m = true) : extV xs i m = xs.set i.toNat (stp 7919 (xs.getD i.toNat 0) m) := if_pos h
theorem extE_bad {xs : List Int} {i m : Int} (h : extOk xs i m = false) : extE xs i m = 1 := if_neg (by rw [h]; exact Bool.false_ne_true)
theorem extV_bad {xs : List Int} {i m : Int} (h : extOk xs i m = false) : extV xs i m = noBank := if_neg (by rw [h]; exact Bool.false_ne_true)
theorem extV_len {xs : List Int} (hl : xs.length = 8) (i m : Int) : (extV xs i m).length = 8 := by
  cases h : extOk xs i m with
  | true => rw [extV_ok h, List.length_set]; exact hl
  | false => rw [extV_bad h]; rfl

theorem any_bad (xs : List Int) : (xs.any fun x => !isM x) = !okAll xs := by
  unfold okAll
  induction xs with
  | nil => rfl
  | cons x r ih => simp only [List.any_cons, List.all_cons, ih]; cases isM x <;> simp

theorem heap_lt {w : World} {b : Nat} {o : Obj} (h : w.heap[b]? = some o) : b < w.heap.size := (Array.getElem?_eq_some_iff.1 h).1
/-- A bank that was laid in a block of its own. -/
theorem bank_cell {w : World} {b : Nat} {xs : List Int} {t : TypeId} {fr : Nat × Nat} (h : w.heap[b]? = some (.cells (bankC xs) t fr)) {k : Nat} {x : Int} (hx : xs[k]? = some x) : w.cell? ⟨b, k, none⟩ = some (.int .i64 x) := by
  rw [cell_of_row w b k _ t fr h]
  exact bankC_at hx
theorem bank_row {w : World} {b : Nat} {xs : List Int} {t : TypeId} {fr : Nat × Nat} (h : w.heap[b]? = some (.cells (bankC xs) t fr)) : Row w (some ⟨b, 0, none⟩) xs :=
  Or.inr ⟨b, 0, rfl, fun k x hx => by rw [Nat.zero_add]; exact bank_cell h hx⟩
end Go.Proofs.YtdaedmcmcapjkaaDoor.M
