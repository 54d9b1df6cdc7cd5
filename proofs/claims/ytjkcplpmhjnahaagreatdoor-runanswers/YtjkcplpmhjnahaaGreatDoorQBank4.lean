/-
  What '==' is at two banks, the step of a walk that stores a bank into a block that was laid last, and plain mathematics on extended banks, likeness and digests.
-/
import Derived.Test.YtjkcplpmhjnahaaGreatDoorPack1
import Derived.ChangeKeysEq
import Derived.Laws.StructEq
import Derived.Deep.WholeRow
namespace Go.Proofs.YtjkcplpmhjnahaaGreatDoor.M

theorem all_eq {xs ys : List Int} (hx : xs.length = 8) (hy : ys.length = 8) : ((List.range 8).all fun i => xs.getD i 0 == ys.getD i 0) = decide (xs = ys) := by
  by_cases h : xs = ys
  · subst h; simp
  · rw [decide_eq_false h, Bool.eq_false_iff]
    intro hall
    apply h
    rw [List.all_eq_true] at hall
    apply List.ext_getElem?
    intro i
    by_cases hi : i < 8
    · have := hall i (List.mem_range.2 hi)
      have e1 : xs[i]? = some (xs[i]'(by omega)) := List.getElem?_eq_getElem (by omega)
      have e2 : ys[i]? = some (ys[i]'(by omega)) := List.getElem?_eq_getElem (by omega)
      simp only [List.getD_eq_getElem?_getD, e1, e2, Option.getD_some, beq_iff_eq] at this
      rw [e1, e2, this]
    · rw [List.getElem?_eq_none (by omega), List.getElem?_eq_none (by omega)]
theorem asked_all : askedL 255 8 = [0, 1, 2, 3, 4, 5, 6, 7] := by decide
theorem mask_all : isMask 255 = true := by decide
theorem differ_all {xs ys : List Int} (hx : xs.length = 8) (hy : ys.length = 8) : (!differ xs ys 255) = decide (xs = ys) := by
  rw [← all_eq hx hy]
  unfold differ
  rw [asked_all]
  simp [List.range, List.range.loop, bne, Bool.not_or]
theorem differ_self (xs : List Int) (m : Int) : differ xs xs m = false := by
  unfold differ
  rw [List.any_eq_false]
  intro i _
  simp
theorem pick_same {xs ys : List Int} {m : Int} (h : differ xs ys m = false) : pick xs (askedL m 8) = pick ys (askedL m 8) := by
  unfold differ at h
  rw [List.any_eq_false] at h
  unfold pick
  apply List.map_congr_left
  intro i hi
  have := h i hi
  simpa using this
theorem extV_eq {xs : List Int} {i m k : Int} (hl : xs.length = 8) (h1 : extOk xs i m = true) (h2 : extOk xs i k = true) : decide (extV xs i m = extV xs i k) = (m == k) := by
  obtain ⟨ho, hr, hm⟩ := extOk_iff.1 h1
  obtain ⟨_, _, hk⟩ := extOk_iff.1 h2
  have hr' := isReg_iff.1 hr
  by_cases e : m = k
  · subst e; simp
  · rw [beq_false_of_ne e]
    apply decide_eq_false
    rw [extV_ok h1, extV_ok h2]
    intro he
    apply e
    have := congrArg (fun l => l[i.toNat]?) he
    simp only [List.getElem?_set_self (show i.toNat < xs.length by omega), Option.some.injEq] at this
    exact stp_inj _ _ _ _ (isM_iff.1 hm).1 (isM_iff.1 hm).2 (isM_iff.1 hk).1 (isM_iff.1 hk).2 this
theorem extV_other {xs : List Int} {i m : Int} {k : Nat} (h1 : extOk xs i m = true) (hk : (k : Int) ≠ i) : (extV xs i m)[k]? = xs[k]? := by
  obtain ⟨ho, hr, hm⟩ := extOk_iff.1 h1
  have hr' := isReg_iff.1 hr
  rw [extV_ok h1, List.getElem?_set_ne (by omega)]
theorem heap_keep {w : World} {b : Nat} {o : Obj} (h : w.heap[b]? = some o) (o' : Obj) : (w.alloc o').heap[b]? = some o := (Go.RowKit.Below.heap_alloc w o' b (heap_lt h)).trans h
end Go.Proofs.YtjkcplpmhjnahaaGreatDoor.M

namespace Go.Proofs.YtjkcplpmhjnahaaGreatDoor.Bank
open Go.ChangeShapes Go.WideShapes Go.ChangeAt Go.RowKit
open Go.Proofs.YtjkcplpmhjnahaaGreatDoor.M Go.Proofs.YtjkcplpmhjnahaaGreatDoor.Measure
set_option linter.unusedVariables false

theorem part_bank {xs : List Int} {k : Nat} {x : Int} (h : xs[k]? = some x) (w : World) : (part 3 (bankC xs) k).run Tryz.prog w = .ok (.int .i64 x) w := by
  simp [part, isAgg, run_underlying Tryz.underlying3, bankC_at h]
theorem eqItems_bank (xs ys : List Int) (hx : xs.length = 8) (hy : ys.length = 8) (d : Nat) (w : World) : ∀ is : List Nat, (∀ i ∈ is, i < 8) →
    (Op.eqItems (d + 1) 3 1 (bankC xs) (bankC ys) is).run Tryz.prog w = .ok (is.all fun i => xs.getD i 0 == ys.getD i 0) w
  | [], _ => by simp [Op.eqItems]
  | i :: is, h => by
    have hi := h i (List.mem_cons_self ..)
    have e1 : xs[i]? = some (xs[i]'(by omega)) := List.getElem?_eq_getElem (by omega)
    have e2 : ys[i]? = some (ys[i]'(by omega)) := List.getElem?_eq_getElem (by omega)
    have ih := eqItems_bank xs ys hx hy d w is (fun j hj => h j (List.mem_cons_of_mem _ hj))
    simp only [Op.eqItems, Sem.run_bind, Nat.mul_one, part_bank e1, part_bank e2, Result.andThen_ok, run_equalIn_int w d 3 .i64 .i64 _ _ Tryz.underlying3]
    simp only [List.all_cons, List.getD_eq_getElem?_getD, e1, e2, Option.getD_some]
    cases hq : (xs[i]'(by omega) == ys[i]'(by omega)) with
    | true => simpa [List.getD_eq_getElem?_getD] using ih
    | false => simp
theorem eq_bank {xs ys : List Int} (hx : xs.length = 8) (hy : ys.length = 8) (w : World) :
    (Op.equalIn 10000 30 (.agg (bankC xs)) (.agg (bankC ys))).run Tryz.prog w = .ok (decide (xs = ys)) w := by
  obtain ⟨i, hi, _⟩ := info_parts info_int
  have hc : Tryz.prog.cellsOf 3 = 1 := by kernel_rfl
  rw [run_equalIn_array w 9999 _ _ Tryz.underlying30 hi, hc, eqItems_bank xs ys hx hy 9998 w _ (fun i hi => List.mem_range.1 hi), all_eq hx hy]

/-- The walk's step where a whole bank is stored into the block that was laid last. -/
theorem wpl_store_new {w : World} {ops : Array Oper} {rest : List Oper} {o : Oper} {a : Act} {Q : Exit → Act → World → Prop} (p q : Nat) (c d : Array Value) (hw : Region.wanted o (yielded ops a.tmps) = true) (ho : o.op = .store 30 (.tmp p) (.tmp q))
    (hx : a.eval (.tmp p) = .pointer (some ⟨w.heap.size, 0, none⟩)) (hv : a.eval (.tmp q) = .agg d) (hs : c.size = 8) (hs' : d.size = 8) (h1 : d.all (·.oneCell') = true)
    (h : wpList Tryz.prog ops Q rest (a.put o.dst undef) (w.alloc (.cells d 30))) : wpList Tryz.prog ops Q (o :: rest) a (w.alloc (.cells c 30)) :=
  wpl_store p q hw ho _ hx c d hv (heap_alloc_new w _) hs hs' h1 (by rw [World.setRow_alloc_new]; exact h)
end Go.Proofs.YtjkcplpmhjnahaaGreatDoor.Bank
