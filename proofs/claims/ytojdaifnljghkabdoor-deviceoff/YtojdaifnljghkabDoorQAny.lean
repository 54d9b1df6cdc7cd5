/-
  Contracts of slices.IndexFunc and slices.ContainsFunc at a row of ints and any predicate that leaves what was there: whether any of them is so.
-/
import Derived.Test.YtojdaifnljghkabDoorRows
import Derived.Test.YtojdaifnljghkabDoorPack1
import Derived.WalkKit
import Derived.ProofKit
import Derived.Handy
import Derived.Deep.LoopGhost
import Derived.Shelf.Abstract
namespace Go.Proofs.YtojdaifnljghkabDoor.Any
open Go.ChangeShapes Go.WideShapes Go.ChangeAt Go.RowKit
open Go.Proofs.YtojdaifnljghkabDoor.M
set_option linter.unusedVariables false

/-- What is asked of a function value: at each number of the list, in whatever world that holds what w holds, it tells p, and leaves such a world. -/
def Tells (g : Nat) (lb : Array Value) (p : Int → Bool) (xs : List Int) (w : World) : Prop :=
  ∀ (W : World) (x : Int), x ∈ xs → Below w.heap.size w W → Calls Tryd.prog g (#[.int .i64 x] ++ lb) W fun e w' => e = .returned (.bool (p x)) ∧ Below w.heap.size w w'

set_option maxHeartbeats 2000000 in
theorem index_any (a : Option Addr) (xs : List Int) (n cap : Nat) (g : Nat) (lb : Array Value) (p : Int → Bool) (w : World) (hn : n = xs.length) (hl : n ≤ 1000000) (hr : Row w a xs)
    (eg : ∀ args w, (callFunc g args).run Tryd.prog w = .ok (.enter g args) w) (hp : Tells g lb p xs w) :
    Calls Tryd.prog 69 #[.slice a n cap, .func (.func g) #[] lb] w fun e w' => (∃ r : Int, e = .returned (.int .i64 r) ∧ decide (0 ≤ r) = xs.any p) ∧ Below w.heap.size w w' := by
  have HL : Hid (∀ k, k < n → ∃ x, xs[k]? = some x) := fun k hk => ⟨xs[k]'(by omega), List.getElem?_eq_getElem (by omega)⟩
  have HN := hide hn
  have HR := hide hr
  have HP := hide hp
  clear hn hr hp
  go_enter Tryd.func69, Tryd.ntmps69
  go_wp2
  go_loopw [5, 8] (fun _ i wr => ∃ k : Nat, k ≤ n ∧ i = .int .i64 k ∧ Hid (Below w.heap.size w wr) ∧ Hid (∀ (j : Nat) (x : Int), j < k → xs[j]? = some x → p x = false)) (fun _ i _ => n - (intOf i).toNat)
  case atStart => exact ⟨0, by omega, rfl, Below.refl _ _, fun j x h => by omega⟩
  case round =>
    obtain ⟨k, hk, rfl, HB, HA⟩ := hrel
    by_cases hlt : k < n
    · obtain ⟨x, hx⟩ := HL.out k hlt
      have HX := hide hx
      clear hx
      have hrow : ∃ b off, a = some ⟨b, off, none⟩ ∧ wr.cell? ⟨b, off + k, none⟩ = some (.int .i64 x) := by
        rcases HR.out.below HB.out with h | ⟨b, off, h1, h2⟩
        · have := HX.out; rw [h] at this; simp at this
        · exact ⟨b, off, h1, h2 k x HX.out⟩
      obtain ⟨b, off, rfl, hc⟩ := hrow
      have hcall := HP.out wr x (List.mem_of_getElem? HX.out) HB.out
      cases hq : p x with
      | true =>
        rw [hq] at hcall
        go_wp2_with (go_at_fn g; refine hcall.mono ?_; rintro e w' ⟨rfl, hb'⟩)
        go_ret
        refine ⟨⟨k, rfl, ?_⟩, hb'⟩
        rw [List.any_eq_true.2 ⟨x, List.mem_of_getElem? HX.out, hq⟩]
        simp
      | false =>
        rw [hq] at hcall
        go_wp2_with (go_at_fn g; refine hcall.mono ?_; rintro e w' ⟨rfl, hb'⟩)
        go_roundw
        case rel => exact ⟨k + 1, by omega, by go_num, hb', fun j y hj hy => by
          by_cases e : j = k
          · subst e; rw [HX.out] at hy; cases hy; exact hq
          · exact HA.out j y (by omega) hy⟩
        case measure => simp [intOf]; omega
    · go_wp2
      go_ret
      refine ⟨⟨-1, rfl, ?_⟩, HB.out⟩
      have h0 : xs.any p = false := by
        rw [List.any_eq_false]
        intro x hx
        obtain ⟨j, hj, e⟩ := List.mem_iff_getElem.1 hx
        rw [HA.out j x (by have := HN.out; omega) (by rw [List.getElem?_eq_getElem hj, e])]
        simp
      rw [h0]
      rfl

theorem contains_any (a : Option Addr) (xs : List Int) (n cap : Nat) (g : Nat) (lb : Array Value) (p : Int → Bool) (w : World) (hn : n = xs.length) (hl : n ≤ 1000000) (hr : Row w a xs)
    (eg : ∀ args w, (callFunc g args).run Tryd.prog w = .ok (.enter g args) w) (hp : Tells g lb p xs w) :
    Calls Tryd.prog 58 #[.slice a n cap, .func (.func g) #[] lb] w fun e w' => e = .returned (.bool (xs.any p)) ∧ Below w.heap.size w w' := by
  have C := hide (index_any a xs n cap g lb p w hn hl hr eg hp)
  clear hn hr hp
  go_enter Tryd.func58, Tryd.ntmps58
  go_wp2_with (fail)
  refine C.out.mono ?_
  rintro e w' ⟨⟨r, rfl, hr⟩, hb⟩
  have HR := hide hr
  clear hr
  go_wp2
  go_ret
  exact ⟨by rw [← HR.out]; rfl, hb⟩
end Go.Proofs.YtojdaifnljghkabDoor.Any
