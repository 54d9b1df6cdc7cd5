/-
  Plain mathematics on two slots, for SlotSafe: which is good, how many tries are left, and that each start takes one.
-/
import Derived.Test.YtojdaifnljghkabGreatDoorPack1
namespace Go.Proofs.YtojdaifnljghkabGreatDoor.M
set_option linter.unusedVariables false

theorem ok_facts {t : St} (h : OkT t) : (t.x.good = true ∧ t.y.good = false ∧ t.x.full = true ∧ safeT t = false) ∨ (t.x.good = false ∧ t.y.good = true ∧ t.y.full = true ∧ safeT t = true) := by
  obtain ⟨h1, h2, h3, h6, h4, h5⟩ := h
  generalize hq : safeT t = q at *
  cases q
  · exact Or.inl ⟨h2, h1, h3, rfl⟩
  · exact Or.inr ⟨h1, h2, h3, rfl⟩
theorem pick_cases {t : St} (h : OkT t) : (pickT t = safeT t ∧ leftT t ≤ 0) ∨ (pickT t = (!safeT t) ∧ 0 < leftT t ∧ (t.at (!safeT t)).full = true ∧ leftT t = (t.at (!safeT t)).tries) := by
  have h1 := h.one
  unfold pickT leftT
  by_cases hf : (t.at (!safeT t)).full = true
  · rw [if_pos hf]
    by_cases ht : 0 < (t.at (!safeT t)).tries
    · exact Or.inr ⟨if_pos ⟨hf, h1, ht⟩, ht, hf, rfl⟩
    · exact Or.inl ⟨if_neg (fun hc => ht hc.2.2), by omega⟩
  · rw [if_neg hf]
    exact Or.inl ⟨if_neg (fun hc => hf hc.1), Int.le_refl _⟩
theorem safe_start {t : St} (h : OkT t) : safeT (startT t) = safeT t := by
  obtain ⟨x, y, r⟩ := t
  rcases ok_facts h with ⟨e1, e2, e3, e4⟩ | ⟨e1, e2, e3, e4⟩
  · simp only [] at e1 e2 e3
    unfold startT
    rw [e4]
    cases pickT ⟨x, y, r⟩ <;> simp [safeT, St.at, St.put, runT, lessL, e1, e2]
  · simp only [] at e1 e2 e3
    unfold startT
    rw [e4]
    cases pickT ⟨x, y, r⟩ <;> simp [safeT, St.at, St.put, runT, lessL, e1, e2]
theorem left_start {t : St} (h : OkT t) : leftT (startT t) ≤ max 0 (leftT t - 1) := by
  have hs := safe_start h
  have hp := pick_cases h
  have hg := h.good
  have ho := h.one
  unfold leftT at hp ⊢
  rw [hs]
  unfold startT
  obtain ⟨x, y, r⟩ := t
  generalize safeT ⟨x, y, r⟩ = q at *
  rcases hp with ⟨e1, e2⟩ | ⟨e1, e2, e3, e4⟩
  · rw [e1]
    have hl : lessL ((⟨x, y, r⟩ : St).at q) = (⟨x, y, r⟩ : St).at q := by unfold lessL; rw [if_pos hg]
    rw [hl]
    cases q <;> simp [St.at, St.put, runT] at e2 ⊢ <;> omega
  · rw [e1]
    have hl : lessL ((⟨x, y, r⟩ : St).at (!q)) = { ((⟨x, y, r⟩ : St).at (!q)) with tries := ((⟨x, y, r⟩ : St).at (!q)).tries - 1 } := by unfold lessL; rw [if_neg (by rw [ho]; decide)]
    rw [hl]
    cases q <;> simp [St.at, St.put, runT] at e2 e3 e4 ⊢ <;> simp [e3] <;> omega
theorem left_le {t : St} (h : OkT t) : leftT t ≤ 3 := by
  obtain ⟨_, _, _, _, hx, hy⟩ := h
  unfold leftT
  split
  · cases safeT t
    · exact hy.2
    · exact hx.2
  · omega
theorem idx_is (q : Bool) : idx q = 0 ∨ idx q = 1 := by cases q <;> simp [idx]
/-- What is picked is full, and good, or on trial with a try left. -/
theorem pick_facts {t : St} {i : Nat} (h : OkT t) (hl : leftT t ≤ max 0 (3 - (i : Int))) : (t.at (pickT t)).full = true ∧ ((t.at (pickT t)).good = true ∨ ((t.at (pickT t)).good = false ∧ 0 < (t.at (pickT t)).tries ∧ i < 3)) := by
  rcases pick_cases h with ⟨e1, e2⟩ | ⟨e1, e2, e3, e4⟩
  · rw [e1]; exact ⟨h.full, Or.inl h.good⟩
  · rw [e1]; exact ⟨e3, Or.inr ⟨h.one, by omega, by omega⟩⟩
end Go.Proofs.YtojdaifnljghkabGreatDoor.M
