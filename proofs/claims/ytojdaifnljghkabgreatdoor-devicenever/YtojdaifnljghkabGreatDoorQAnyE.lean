/-
  Contracts of slices.IndexFunc and slices.ContainsFunc at a row of events and any predicate that leaves what was there: whether any of them is so.
-/
import Derived.Test.YtojdaifnljghkabGreatDoorRows
import Derived.Test.YtojdaifnljghkabGreatDoorPack2
import Derived.Test.YtojdaifnljghkabGreatDoorPack1
import Derived.WalkKit
import Derived.ProofKit
import Derived.Handy
import Derived.Deep.LoopGhost
import Derived.Shelf.Abstract
namespace Go.Proofs.YtojdaifnljghkabGreatDoor.AnyE
open Go.ChangeShapes Go.WideShapes Go.ChangeAt Go.RowKit
open Go.Proofs.YtojdaifnljghkabGreatDoor.M
set_option linter.unusedVariables false

/-- What is asked of a function value: at each event of the list, in whatever world that holds what w holds, it tells p, and leaves such a world. -/
def Tells (g : Nat) (lb : Array Value) (p : Int × Int → Bool) (l : List (Int × Int)) (w : World) : Prop :=
  ∀ (W : World) (c : Int × Int), c ∈ l → Below w.heap.size w W → Calls Tryz.prog g (#[.agg #[.int .i64 c.1, .int .i64 c.2]] ++ lb) W fun e w' => e = .returned (.bool (p c)) ∧ Below w.heap.size w w'
theorem two_cells {w : World} {b o : Nat} {x y : Int} (h : ∀ (j : Nat) (v : Value), (evV (x, y))[j]? = some v → w.cell? ⟨b, o + j, none⟩ = some v) :
    w.cell? ⟨b, o, none⟩ = some (.int .i64 x) ∧ w.cell? ⟨b, o + 1, none⟩ = some (.int .i64 y) := ⟨h 0 _ rfl, h 1 _ rfl⟩

set_option maxHeartbeats 2000000 in
theorem index_any (a : Option Addr) (l : List (Int × Int)) (n cap : Nat) (g : Nat) (lb : Array Value) (p : Int × Int → Bool) (w : World) (hn : n = l.length) (hl : n ≤ 1000000) (hr : RRow 2 evV w a l)
    (eg : ∀ args w, (callFunc g args).run Tryz.prog w = .ok (.enter g args) w) (hp : Tells g lb p l w) :
    Calls Tryz.prog 134 #[.slice a n cap, .func (.func g) #[] lb] w fun e w' => (∃ r : Int, e = .returned (.int .i64 r) ∧ decide (0 ≤ r) = l.any p) ∧ Below w.heap.size w w' := by
  have HL : Hid (∀ k, k < n → ∃ x, l[k]? = some x) := fun k hk => ⟨l[k]'(by omega), List.getElem?_eq_getElem (by omega)⟩
  have HN := hide hn
  have HR := hide hr
  have HP := hide hp
  clear hn hr hp
  go_enter Tryz.func134, Tryz.ntmps134
  go_wp2
  go_loopw [5, 8] (fun _ i wr => ∃ k : Nat, k ≤ n ∧ i = .int .i64 k ∧ Hid (Below w.heap.size w wr) ∧ Hid (∀ (j : Nat) (x : Int × Int), j < k → l[j]? = some x → p x = false)) (fun _ i _ => n - (intOf i).toNat)
  case atStart => exact ⟨0, by omega, rfl, Below.refl _ _, fun j x h => by omega⟩
  case round =>
    obtain ⟨k, hk, rfl, HB, HA⟩ := hrel
    by_cases hlt : k < n
    · obtain ⟨⟨r, v⟩, hx⟩ := HL.out k hlt
      have HX := hide hx
      obtain ⟨b, off, rfl, hc⟩ := (HR.out.below HB.out).at hx
      obtain ⟨c0, c1⟩ := two_cells hc
      have hcall := HP.out wr _ (List.mem_of_getElem? hx) HB.out
      clear hx hc
      simp only [] at hcall
      cases hq : p (r, v) with
      | true =>
        rw [hq] at hcall
        go_wp2_with (go_at_fn g; refine hcall.mono ?_; rintro e w' ⟨rfl, hb'⟩)
        go_ret
        refine ⟨⟨k, rfl, ?_⟩, hb'⟩
        rw [List.any_eq_true.2 ⟨_, List.mem_of_getElem? HX.out, hq⟩]
        simp
      | false =>
        rw [hq] at hcall
        go_wp2_with (go_at_fn g; refine hcall.mono ?_; rintro e w' ⟨rfl, hb'⟩)
        go_roundw
        case rel => exact ⟨k + 1, by omega, by go_num, hb', fun j y hj hy => by
          by_cases e : j = k
          · subst e; rw [HX.out] at hy; cases hy; exact hq
          · exact HA.out j y (by omega) hy⟩
        case measure => simp [intOf]; omega
    · go_wp2
      go_ret
      refine ⟨⟨-1, rfl, ?_⟩, HB.out⟩
      have h0 : l.any p = false := by
        rw [List.any_eq_false]
        intro x hx
        obtain ⟨j, hj, e⟩ := List.mem_iff_getElem.1 hx
        rw [HA.out j x (by have := HN.out; omega) (by rw [List.getElem?_eq_getElem hj, e])]
        simp
      rw [h0]
      rfl

theorem contains_any (a : Option Addr) (l : List (Int × Int)) (n cap : Nat) (g : Nat) (lb : Array Value) (p : Int × Int → Bool) (w : World) (hn : n = l.length) (hl : n ≤ 1000000) (hr : RRow 2 evV w a l)
    (eg : ∀ args w, (callFunc g args).run Tryz.prog w = .ok (.enter g args) w) (hp : Tells g lb p l w) :
    Calls Tryz.prog 112 #[.slice a n cap, .func (.func g) #[] lb] w fun e w' => e = .returned (.bool (l.any p)) ∧ Below w.heap.size w w' := by
  have C := hide (index_any a l n cap g lb p w hn hl hr eg hp)
  clear hn hr hp
  go_enter Tryz.func112, Tryz.ntmps112
  go_wp2_with (fail)
  refine C.out.mono ?_
  rintro e w' ⟨⟨r, rfl, hr⟩, hb⟩
  have HR := hide hr
  clear hr
  go_wp2
  go_ret
  exact ⟨by rw [← HR.out]; rfl, hb⟩
end Go.Proofs.YtojdaifnljghkabGreatDoor.AnyE
