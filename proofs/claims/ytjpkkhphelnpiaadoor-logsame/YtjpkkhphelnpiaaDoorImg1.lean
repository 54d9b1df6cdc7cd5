/-
  Contracts of package image's isLetters, IsVersion and Check: whether a text is of letters alone, and what is wrong with an image; memory that was there stays as it was.
-/
import Derived.Test.YtjpkkhphelnpiaaDoorRows
import Derived.Test.YtjpkkhphelnpiaaDoorImgMath
import Derived.Test.YtjpkkhphelnpiaaDoorShelf
import Derived.Shelf.GgClosure.StringsIndexFuncTop
import Derived.WalkKit
import Derived.ProofKit
import Derived.Handy
namespace Go.Proofs.YtjpkkhphelnpiaaDoor.Image
open Go.ChangeShapes Go.WideShapes Go.ChangeAt Go.RowKit
open Go.Proofs.YtjpkkhphelnpiaaDoor.M
set_option linter.unusedVariables false

theorem off_any (r : Nat) (w : World) : Calls Tryd.prog 28 #[.int .i32 r] w fun e w' => e = .returned (.bool (offR r)) ∧ w' = w := by
  by_cases h1 : r < 97
  · have hz : (r : Int) < 97 := by omega
    have E := hide (show offR r = true by unfold offR; simp [h1])
    clear h1
    go_enter Tryd.func28, Tryd.ntmps28
    go_wp2
    go_ret
    exact ⟨by rw [E.out]; rfl, rfl⟩
  · have hz : ¬ (r : Int) < 97 := by omega
    by_cases h2 : 122 < r
    · have hy : (122 : Int) < r := by omega
      have E := hide (show offR r = true by unfold offR; simp [h1, h2])
      clear h1 h2
      go_enter Tryd.func28, Tryd.ntmps28
      go_wp2
      go_ret
      exact ⟨by rw [E.out]; rfl, rfl⟩
    · have hy : ¬ (122 : Int) < r := by omega
      have E := hide (show offR r = false by unfold offR; simp [h1, h2])
      clear h1 h2
      go_enter Tryd.func28, Tryd.ntmps28
      go_wp2
      go_ret
      exact ⟨by rw [E.out]; rfl, rfl⟩

theorem pred (w : World) : PredAt Tryd.prog 28 #[] encR offR w := fun W r _ =>
  (off_any r W).mono fun _ _ ⟨he, hw⟩ => ⟨he, 0, hw⟩

theorem contains_any (s : ByteArray) (w : World) :
    Calls Tryd.prog 27 #[.string s, .func (.func 28) #[] #[]] w fun e w' => e = .returned (.bool (!letS s)) ∧ Below w.heap.size w w' := by
  have h := Any.strings_ContainsFunc Tryd.lays17 28 #[] (enters_of Tryd.func28 (by kernel_rfl) rfl) offR s w (pred w)
  rw [idx_letters] at h
  exact h

theorem letters_any (s : ByteArray) (w : World) :
    Calls Tryd.prog 24 #[.string s] w fun e w' => e = .returned (.bool (letS s)) ∧ Below w.heap.size w w' := by
  go_enter Tryd.func24, Tryd.ntmps24
  go_wp2_with (go_at_call 27; refine (contains_any s _).mono ?_; rintro e w' ⟨rfl, hb⟩)
  go_ret
  exact ⟨by simp, hb⟩

theorem empty_is {s : ByteArray} (h : s.size = 0) : s.toList.isEmpty = true := by
  rw [Lib.toList_data]
  have := len_size s
  cases e : s.data.toList with
  | nil => rfl
  | cons a l => rw [e, List.length_cons] at this; omega
theorem empty_not {s : ByteArray} (h : ¬ s.size = 0) : s.toList.isEmpty = false := by
  rw [Lib.toList_data]
  have := len_size s
  cases e : s.data.toList with
  | nil => rw [e, List.length_nil] at this; omega
  | cons a l => rfl

theorem version_any (v : Int) (w : World) : Calls Tryd.prog 14 #[.int .i64 v] w fun e w' => e = .returned (.bool (verB v)) ∧ w' = w := by
  by_cases h1 : 1 ≤ v
  · by_cases h2 : v ≤ 1000
    · have E := hide (verB_is h1 h2)
      go_enter Tryd.func14, Tryd.ntmps14
      go_wp2
      go_ret
      exact ⟨by rw [E.out]; rfl, rfl⟩
    · have E := hide (verB_not (v := v) (Or.inr (by omega)))
      go_enter Tryd.func14, Tryd.ntmps14
      go_wp2
      go_ret
      exact ⟨by rw [E.out]; rfl, rfl⟩
  · have E := hide (verB_not (v := v) (Or.inl (by omega)))
    go_enter Tryd.func14, Tryd.ntmps14
    go_wp2
    go_ret
    exact ⟨by rw [E.out]; rfl, rfl⟩

end Go.Proofs.YtjpkkhphelnpiaaDoor.Image
