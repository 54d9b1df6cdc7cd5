/-
  Contract of one line at the reference's desk (stairref2's (*Desk).Line), whatever the line is: the answer, and the desk then; all else stays as it was.
-/
import Derived.Test.YtjkcplpmhjnahaaGreatDoorQDeskA
import Derived.Test.YtjkcplpmhjnahaaGreatDoorQDeskB
import Derived.Test.YtjkcplpmhjnahaaGreatDoorQDeskC
import Derived.Test.YtjkcplpmhjnahaaGreatDoorQDeskD
import Derived.Test.YtjkcplpmhjnahaaGreatDoorQDeskE
namespace Go.Proofs.YtjkcplpmhjnahaaGreatDoor.Desk
open Go.ChangeShapes Go.WideShapes Go.ChangeAt Go.RowKit
open Go.Proofs.YtjkcplpmhjnahaaGreatDoor.M
set_option linter.unusedVariables false

theorem line_any (g : Nat) (v : Value) (cs : List (ByteArray × Int)) (d : Dk) (s : ByteArray) (w : World) (B : Nat) (h : DIs w B g v cs d) (hs : s.size ≤ 3000) (hB : B ≤ w.heap.size) :
    Calls Tryz.prog 8 #[.pointer (some ⟨g, 0, none⟩), .string s] w (Post w B g v (lineA d s.data.toList)) := by
  rw [lineA_words]
  cases hc : cutG 32 [] s.data.toList with
  | nil => exact absurd hc (cutG_ne 32 _ _)
  | cons k r =>
    by_cases h1 : k = kwExtend
    · subst h1; exact line_extend g v cs d s w B h hs hB r hc
    by_cases h2 : k = kwDigest
    · subst h2; exact line_digest g v cs d s w B h hs hB r hc
    by_cases h3 : k = kwPublic
    · subst h3; exact line_public g v cs d s w B h hs hB r hc
    by_cases h4 : k = kwMeasure
    · subst h4; exact line_measure g v cs d s w B h hs hB r hc
    by_cases h5 : k = kwRaise
    · subst h5; exact line_raise g v cs d s w B h hs hB r hc
    by_cases h6 : k = kwMay
    · subst h6; exact line_may g v cs d s w B h hs hB r hc
    by_cases h7 : k = kwSign
    · subst h7; exact line_sign g v cs d s w B h hs hB r hc
    by_cases h8 : k = kwCheck
    · subst h8; exact line_check g v cs d s w B h hs hB r hc
    exact line_other g v cs d s w B h hs hB k r hc h1 h2 h3 h4 h5 h6 h7 h8
/-- The desk among other things. -/
def Ds (W : World) (B g : Nat) (S : Nat → Prop) (d : Dk) : Prop := ∃ v cs, S = CntRef.cfoot g v ∧ DIs W B g v cs d
def deskO : Obj := .cells #[.slice none 0 0, .int .i64 0, .int .i64 0, .int .i64 0, .int .i64 0, .int .i64 0, .int .i64 0, .int .i64 0, .int .i64 0] 32
/-- What a law asks of the desk. -/
structure DeskLaw (Ds : World → Nat → Nat → (Nat → Prop) → Dk → Prop) : Prop where
  has : ∀ {W : World} {B g : Nat} {S : Nat → Prop} {d : Dk}, Ds W B g S d → ∀ b, S b → B ≤ b ∧ b < W.heap.size
  only : ∀ {W W' : World} {B g : Nat} {S T : Nat → Prop} {d : Dk}, Ds W B g S d → Only T W W' → (∀ b, S b → ¬ T b) → Ds W' B g S d
  new : ∀ (w : World) (B : Nat), B ≤ w.heap.size → ∃ S, Ds (w.alloc deskO) B w.heap.size S dk0 ∧ ∀ b, S b → w.heap.size ≤ b
  line : ∀ (g : Nat) (S : Nat → Prop) (d : Dk) (s : ByteArray) (w : World) (B : Nat), Ds w B g S d → s.size ≤ 3000 → B ≤ w.heap.size →
    Calls Tryz.prog 8 #[.pointer (some ⟨g, 0, none⟩), .string s] w fun e w' => ∃ S', e = .returned (.string { data := (lineA d s.data.toList).1.toArray }) ∧ Ds w' B g S' (lineA d s.data.toList).2 ∧ Only S w w' ∧ (∀ b, S' b → S b ∨ w.heap.size ≤ b)
theorem deskLaw : DeskLaw Ds where
  has := by
    rintro W B g S d ⟨v, cs, rfl, h⟩ b hb
    exact CntRef.CIx.has h.1 b hb
  only := by
    rintro W W' B g S T d ⟨v, cs, rfl, h⟩ ho hn
    exact ⟨v, cs, rfl, h.1.only ho hn, h.2⟩
  new := by
    intro w B hB
    refine ⟨CntRef.cfoot w.heap.size (.slice none 0 0), ⟨.slice none 0 0, [], rfl, ⟨blk_new w deskO, OwnR.nil _ _ _, by simp [Value.ownBlock], hB, by simp, by simp, by simp⟩, rfl, rfl, rfl, by decide⟩, ?_⟩
    rintro b (rfl | hb)
    · exact Nat.le_refl _
    · cases hb
  line := by
    rintro g S d s w B ⟨v, cs, rfl, h⟩ hs hB
    refine (line_any g v cs d s w B h hs hB).mono ?_
    rintro e w' ⟨v', cs', he, h1, h2, h3⟩
    exact ⟨CntRef.cfoot g v', he, ⟨v', cs', rfl, h1⟩, h2, h3⟩
end Go.Proofs.YtjkcplpmhjnahaaGreatDoor.Desk
