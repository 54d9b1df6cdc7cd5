/-
  Plain mathematics on counts: a least version of each name; what raising one makes of it, and what may be; the names that a law lays.
-/
import Derived.Test.YtojdaifnljghkabDoorPack1
namespace Go.Proofs.YtojdaifnljghkabDoor.M
set_option linter.unusedVariables false

/-- A name is one to eight letters. -/
def nameB (s : ByteArray) : Bool := letS s && decide (1 ≤ s.size ∧ s.size ≤ 8)
def updF (f : ByteArray → Int) (nm : ByteArray) (v : Int) : ByteArray → Int := fun s => if s = nm then v else f s
/-- One raised: what is wrong, whether it is another one, and what is then. -/
def raiE (f : ByteArray → Int) (k : Nat) (nm : ByteArray) (v : Int) : Int :=
  if nameB nm = true then (if 0 ≤ v ∧ v ≤ 1000 then (if v ≤ f nm then 0 else if f nm = 0 ∧ 12 ≤ k then 4 else 0) else 1) else 3
def raiB (f : ByteArray → Int) (k : Nat) (nm : ByteArray) (v : Int) : Bool := decide (nameB nm = true ∧ (0 ≤ v ∧ v ≤ 1000) ∧ f nm < v ∧ ¬ (f nm = 0 ∧ 12 ≤ k))
def raiF (f : ByteArray → Int) (k : Nat) (nm : ByteArray) (v : Int) : ByteArray → Int := if raiB f k nm v = true then updF f nm v else f
def raiK (f : ByteArray → Int) (k : Nat) (nm : ByteArray) (v : Int) : Nat := if raiB f k nm v = true then (if f nm = 0 then k + 1 else k) else k
def leaE (nm : ByteArray) : Int := if nameB nm = true then 0 else 3
def leaV (f : ByteArray → Int) (nm : ByteArray) : Int := if nameB nm = true then f nm else 0
def mayE (f : ByteArray → Int) (nm : ByteArray) (v : Int) : Int := if nameB nm = true then (if 1 ≤ v ∧ v ≤ 1000 then (if v < f nm then 9 else 0) else 1) else 3
section
variable {f : ByteArray → Int} {k : Nat} {nm : ByteArray} {v : Int}
theorem raiB_iff : raiB f k nm v = true ↔ nameB nm = true ∧ (0 ≤ v ∧ v ≤ 1000) ∧ f nm < v ∧ ¬ (f nm = 0 ∧ 12 ≤ k) := by unfold raiB; rw [decide_eq_true_iff]
theorem raiE_rise (h : raiB f k nm v = true) : raiE f k nm v = 0 := by
  obtain ⟨h1, h2, h3, h4⟩ := raiB_iff.1 h
  unfold raiE
  rw [if_pos h1, if_pos h2, if_neg (by omega), if_neg h4]
theorem raiF_no (h : ¬ raiB f k nm v = true) : raiF f k nm v = f := if_neg h
theorem raiK_no (h : ¬ raiB f k nm v = true) : raiK f k nm v = k := if_neg h
theorem raiF_yes (h : raiB f k nm v = true) : raiF f k nm v = updF f nm v := if_pos h
theorem raiE_name (h : nameB nm = false) : raiE f k nm v = 3 ∧ raiB f k nm v = false := by
  refine ⟨by unfold raiE; rw [h]; rfl, ?_⟩
  cases hb : raiB f k nm v with
  | false => rfl
  | true => rw [(raiB_iff.1 hb).1] at h; cases h
theorem leaE_no (h : nameB nm = false) : leaE nm = 3 ∧ leaV f nm = 0 := by unfold leaE leaV; rw [h]; exact ⟨rfl, rfl⟩
theorem leaE_ok (h : nameB nm = true) : leaE nm = 0 ∧ leaV f nm = f nm := by unfold leaE leaV; rw [if_pos h, if_pos h]; exact ⟨rfl, rfl⟩
theorem updF_same : updF f nm v nm = v := if_pos rfl
/-- The least version never goes back; it is another one just where it is more. -/
theorem rai_least (h : nameB nm = true) : f nm ≤ raiF f k nm v nm ∧ (raiB f k nm v = decide (f nm < raiF f k nm v nm)) ∧ (¬ raiE f k nm v = 0 → raiF f k nm v nm = f nm) := by
  cases hb : raiB f k nm v with
  | true =>
    have h3 := (raiB_iff.1 hb).2.2.1
    rw [raiF_yes hb, updF_same]
    exact ⟨by omega, (decide_eq_true h3).symm, fun hn => absurd (raiE_rise hb) hn⟩
  | false =>
    rw [raiF_no (by rw [hb]; exact Bool.false_ne_true)]
    exact ⟨Int.le_refl _, (decide_eq_false (by omega)).symm, fun _ => rfl⟩
/-- Of one name alone there is always room: it is the greatest that was. -/
theorem rai_one (h : nameB nm = true) (hk : k ≤ 1) (hv : 0 ≤ f nm) : raiF f k nm v nm = if 0 ≤ v ∧ v ≤ 1000 ∧ f nm < v then v else f nm := by
  by_cases hc : 0 ≤ v ∧ v ≤ 1000 ∧ f nm < v
  · rw [if_pos hc, raiF_yes (raiB_iff.2 ⟨h, ⟨hc.1, hc.2.1⟩, hc.2.2, by omega⟩), updF_same]
  · rw [if_neg hc, raiF_no (fun hb => hc (by obtain ⟨_, h2, h3, _⟩ := raiB_iff.1 hb; exact ⟨h2.1, h2.2, h3⟩))]
end

/-- The names that a law lays: an n and a letter. -/
def nmI (i : Nat) : ByteArray := { data := #[110, UInt8.ofNat (97 + i)] }
theorem nmI_name_fin : ∀ i : Fin 20, nameB (nmI i.val) = true := by decide
theorem nmI_inj_fin : ∀ i j : Fin 20, nmI i.val = nmI j.val → i.val = j.val := by decide
theorem nmI_name {i : Nat} (h : i < 20) : nameB (nmI i) = true := nmI_name_fin ⟨i, h⟩
theorem nmI_inj {i j : Nat} (hi : i < 20) (hj : j < 20) (h : nmI i = nmI j) : i = j := nmI_inj_fin ⟨i, hi⟩ ⟨j, hj⟩ h
def inI (n : Nat) (s : ByteArray) : Bool := (List.range n).any fun j => decide (s = nmI j)
theorem inI_iff {n : Nat} {s : ByteArray} : inI n s = true ↔ ∃ j, j < n ∧ s = nmI j := by
  unfold inI
  rw [List.any_eq_true]
  exact ⟨fun ⟨j, hj, e⟩ => ⟨j, List.mem_range.1 hj, of_decide_eq_true e⟩, fun ⟨j, hj, e⟩ => ⟨j, List.mem_range.2 hj, decide_eq_true e⟩⟩
def fI (i : Nat) : ByteArray → Int := fun s => if inI (min i 12) s = true then 1 else 0
theorem fI_zero : fI 0 = fun _ => 0 := by
  funext s
  unfold fI
  rw [if_neg]
  intro h
  obtain ⟨j, hj, _⟩ := inI_iff.1 h
  omega
theorem fI_own {i : Nat} (h : i < 20) : fI i (nmI i) = 0 := by
  unfold fI
  rw [if_neg]
  intro hc
  obtain ⟨j, hj, e⟩ := inI_iff.1 hc
  have := nmI_inj (i := i) (j := j) h (by omega) e
  omega
theorem fI_next {i : Nat} (h : i < 12) : updF (fI i) (nmI i) 1 = fI (i + 1) := by
  funext s
  unfold updF fI
  rw [show min (i + 1) 12 = i + 1 by omega, show min i 12 = i by omega]
  by_cases e : s = nmI i
  · rw [if_pos e, if_pos (inI_iff.2 ⟨i, by omega, e⟩)]
  · rw [if_neg e]
    by_cases hm : inI i s = true
    · obtain ⟨j, hj, e2⟩ := inI_iff.1 hm
      rw [if_pos hm, if_pos (inI_iff.2 ⟨j, by omega, e2⟩)]
    · rw [if_neg hm, if_neg]
      intro hc
      obtain ⟨j, hj, e2⟩ := inI_iff.1 hc
      by_cases hji : j = i
      · rw [hji] at e2; exact e e2
      · exact hm (inI_iff.2 ⟨j, by omega, e2⟩)
theorem fI_full {i : Nat} (h : 12 ≤ i) : fI (i + 1) = fI i := by unfold fI; rw [show min (i + 1) 12 = min i 12 by omega]
theorem fI_zz (i : Nat) : fI i { data := #[122, 122] } = 0 := by
  unfold fI
  rw [if_neg]
  intro hc
  obtain ⟨j, hj, e⟩ := inI_iff.1 hc
  have h1 := congrArg (fun s : ByteArray => s.data.toList[0]?) e
  simp [nmI] at h1
end Go.Proofs.YtojdaifnljghkabDoor.M
