/-
  Contract of what package stairsame says on events (Events) over this translation: two lists that are alike are the same; memory stays as it was.
-/
import Derived.Test.YtojdaifnljghkabGreatDoorPack2
import Derived.Test.YtojdaifnljghkabGreatDoorPack1
import Derived.Test.YtojdaifnljghkabGreatDoorRows
import Derived.WalkKit
import Derived.ProofKit
import Derived.Handy
import Derived.Deep.LoopGhost
import Derived.Deep.QuietTactic
import Derived.BigQuiet
namespace Go.Proofs.YtojdaifnljghkabGreatDoor.SameEv
open Go.ChangeShapes Go.WideShapes Go.ChangeAt Go.RowKit
open Go.Proofs.YtojdaifnljghkabGreatDoor.M
set_option linter.unusedVariables false

theorem quiet_below (w : World) : ∀ n, Below w.heap.size w (w.drewN n)
  | 0 => Below.refl _ _
  | n + 1 => Below.drew (quiet_below w n)
theorem ev_cells {w : World} {b o : Nat} {r m : Int} (h : ∀ (j : Nat) (v : Value), (evV (r, m))[j]? = some v → w.cell? ⟨b, o + j, none⟩ = some v) : w.cell? ⟨b, o, none⟩ = some (.int .i64 r) ∧ w.cell? ⟨b, o + 1, none⟩ = some (.int .i64 m) := ⟨h 0 _ rfl, h 1 _ rfl⟩
set_option maxHeartbeats 2000000 in
theorem events_same (a a' : Option Addr) (l : List (Int × Int)) (n cap cap' : Nat) (w : World) (hn : n = l.length) (hm : n ≤ maxLen) (hr : RRow 2 evV w a l) (hr' : RRow 2 evV w a' l) :
    Calls Tryz.prog 32 #[.slice a n cap, .slice a' n cap'] w fun e w' => e = .returned (.bool true) ∧ Below w.heap.size w w' := by
  have hm' : n ≤ 9223372036854775807 := by unfold maxLen at hm; omega
  have HN := hide hn
  have HR := hide hr
  have HR' := hide hr'
  clear hn hr hr' hm
  go_enter Tryz.func32, Tryz.ntmps32
  go_wp2
  go_loopw [5] (fun s5 wr => ∃ k : Nat, k ≤ n ∧ s5 = .int .i64 k ∧ Hid (Below w.heap.size w wr)) (fun s5 _ => n - (intOf s5).toNat)
  case atStart => exact ⟨0, by omega, rfl, Below.refl _ _⟩
  case round =>
    obtain ⟨k, hk, rfl, HB⟩ := hrel
    by_cases hlt : k < n
    · have hlz : (k : Int) < n := by omega
      obtain ⟨⟨r, m⟩, hx⟩ : ∃ c, l[k]? = some c := ⟨l[k]'(by have := HN.out; omega), List.getElem?_eq_getElem (by have := HN.out; omega)⟩
      obtain ⟨b, off, rfl, hc⟩ := (HR.out.below HB.out).at hx
      obtain ⟨b', off', rfl, hc'⟩ := (HR'.out.below HB.out).at hx
      obtain ⟨x0, x1⟩ := ev_cells hc
      obtain ⟨y0, y1⟩ := ev_cells hc'
      clear hx hc hc'
      go_wp2_with (fail)
      go_quiet (fail)
      go_wp2
      go_roundw
      case rel => exact ⟨k + 1, by omega, by go_num, below_on HB.out (quiet_below _ _)⟩
      case measure => simp [intOf]; omega
    · have hlz : ¬ (k : Int) < n := by omega
      go_wp2
      go_ret
      exact ⟨rfl, HB.out⟩
end Go.Proofs.YtojdaifnljghkabGreatDoor.SameEv
