/-
  Plain laws, over any program, on rows of the call's own whose elements have one cell each: how they are read, and cut shorter.
-/
import Derived.Test.YtjkcplpmhjnahaaGreatDoorQRecAt
namespace Go.Proofs.YtjkcplpmhjnahaaGreatDoor.M
open Go.RowKit Go.ChangeShapes Go.WideShapes Go.ChangeAt
set_option linter.unusedVariables false
theorem own_row1 {α : Type} {cv : α → List Value} (h1 : ∀ x, (cv x).length = 1) {W : World} {B : Nat} {T : TypeId} {v : Value} {xs : List α} (h : OwnR 1 cv W B T v xs) (hl : 0 < xs.length) :
    ∃ g cap, v = .slice (some ⟨g, 0, none⟩) xs.length cap ∧ xs.length ≤ cap ∧ cap ≤ maxLen ∧ ∀ (i : Nat) (x : α) (u : Value), xs[i]? = some x → (cv x)[0]? = some u → W.cell? ⟨g, i, none⟩ = some u := by
  rcases h.2 with ⟨_, h0⟩ | ⟨g, cap, cur, e, _, hg, hc, hm, hs, ht⟩
  · omega
  · refine ⟨g, cap, e, hc, hm, fun i x u hx hu => ?_⟩
    rw [cell_of_row W g i _ _ _ hg]
    have hi : i < xs.length := (List.getElem?_eq_some_iff.1 hx).1
    have key : ∀ (ys : List α) (k : Nat), (ys.flatMap cv)[k]? = ys[k]?.bind (fun y => (cv y)[0]?) := by
      intro ys
      induction ys with
      | nil => intro k; simp
      | cons y r ih =>
        intro k
        have hy := h1 y
        obtain ⟨z, hz⟩ : ∃ z, cv y = [z] := List.length_eq_one_iff.1 hy
        rw [List.flatMap_cons, hz]
        cases k with
        | zero => simp [hz]
        | succ k => simpa using ih k
    have h2 := key xs i
    rw [hx] at h2
    simp only [Option.bind_some] at h2
    rw [hu, ← ht, List.getElem?_take] at h2
    rw [if_pos (by omega)] at h2
    simpa using h2
theorem own_trunc {α : Type} {cv : α → List Value} (h1 : ∀ x, (cv x).length = 1) {W : World} {B : Nat} {T : TypeId} {g n cap : Nat} {xs : List α} (h : OwnR 1 cv W B T (.slice (some ⟨g, 0, none⟩) n cap) xs) (m : Nat) (hm : m ≤ xs.length) : OwnR 1 cv W B T (.slice (some ⟨g, 0, none⟩) m cap) (xs.take m) := by
  have hlen : (xs.take m).length = m := by rw [List.length_take]; omega
  have fl : ∀ ys : List α, (ys.flatMap cv).length = ys.length := by
    intro ys
    induction ys with
    | nil => rfl
    | cons y r ih => rw [List.flatMap_cons, List.length_append, h1, ih, List.length_cons]; omega
  have ft : ∀ (ys : List α) (k : Nat), (ys.take k).flatMap cv = (ys.flatMap cv).take k := by
    intro ys
    induction ys with
    | nil => intro k; simp
    | cons y r ih =>
      intro k
      cases k with
      | zero => simp
      | succ k =>
        obtain ⟨z, hz⟩ : ∃ z, cv y = [z] := List.length_eq_one_iff.1 (h1 y)
        rw [List.take_succ_cons, List.flatMap_cons, List.flatMap_cons, hz, ih k]
        simp
  refine ⟨by rw [fl, hlen]; omega, ?_⟩
  rcases h.2 with ⟨e, _⟩ | ⟨g', cap', cur, e, hb, hg, hc, hx, hs, ht⟩
  · cases e
  · cases e
    refine Or.inr ⟨g, cap, cur, by rw [hlen], hb, hg, by rw [hlen]; omega, hx, hs, ?_⟩
    rw [hlen, ft, ← ht, List.take_take]
    congr 1
    omega
end Go.Proofs.YtjkcplpmhjnahaaGreatDoor.M
