/-
  Plain mathematics on logs: the records that are there, how many bytes each has, how many are safe, when it stops; what raising, syncing and crashing make of one, and the counts that the records make.
-/
import Derived.Test.YtjpkkhphelnpiaaDoorCntMath
namespace Go.Proofs.YtjpkkhphelnpiaaDoor.M
set_option linter.unusedVariables false

/-- A record: a name, its version, and how many bytes it has. -/
abbrev Rcd := ByteArray × Int × Nat
/-- A log: its whole records, the bytes of one that was not written whole, how many bytes are safe, in how many steps it stops (below 0: never), and whether it has stopped. -/
structure LS where
  rs : List Rcd
  half : Nat
  safe : Nat
  fail : Int
  stop : Bool
/-- The counts that records make: the least versions, and of how many names. -/
def cntL (rs : List Rcd) : (ByteArray → Int) × Nat := rs.foldl (fun c r => (raiF c.1 c.2 r.1 r.2.1, raiK c.1 c.2 r.1 r.2.1)) (fun _ => 0, 0)
theorem cntL_nil : cntL [] = (fun _ => 0, 0) := rfl
theorem cntL_snoc (rs : List Rcd) (r : Rcd) : cntL (rs ++ [r]) = (raiF (cntL rs).1 (cntL rs).2 r.1 r.2.1, raiK (cntL rs).1 (cntL rs).2 r.1 r.2.1) := by
  unfold cntL
  rw [List.foldl_append]
  rfl
def LS.f (j : LS) : ByteArray → Int := (cntL j.rs).1
def LS.k (j : LS) : Nat := (cntL j.rs).2
/-- How many bytes records have. -/
def lenL (rs : List Rcd) : Nat := (rs.map fun r => r.2.2).sum
theorem lenL_nil : lenL [] = 0 := rfl
theorem lenL_snoc (rs : List Rcd) (r : Rcd) : lenL (rs ++ [r]) = lenL rs + r.2.2 := by unfold lenL; rw [List.map_append, List.sum_append]; rfl
theorem lenL_take_le (rs : List Rcd) (n : Nat) : lenL (rs.take n) ≤ lenL rs := by
  unfold lenL
  induction rs generalizing n with
  | nil => simp
  | cons r t ih =>
    cases n with
    | zero => simp
    | succ n => simp only [List.take_succ_cons, List.map_cons, List.sum_cons]; have := ih n; omega
theorem lenL_take_mono (rs : List Rcd) {m n : Nat} (h : m ≤ n) : lenL (rs.take m) ≤ lenL (rs.take n) := by
  have e : rs.take m = (rs.take n).take m := by rw [List.take_take, Nat.min_eq_left h]
  rw [e]
  exact lenL_take_le _ _
def LS.bytes (j : LS) : Nat := lenL j.rs + j.half
/-- A new one. -/
def newL : LS := ⟨[], 0, 0, -1, false⟩
/-- Does it stop at this step? And if not, how many are left. -/
def lessF (n : Int) : Int := if 0 < n then n - 1 else n
/-- One raised: what is wrong, whether it is another one, and what is then; n: how many bytes its record has. -/
def lraG (j : LS) (nm : ByteArray) (v : Int) : Bool := decide (j.stop = false) && raiB j.f j.k nm v && decide (j.rs.length < 30)
def lraE (j : LS) (nm : ByteArray) (v : Int) : Int :=
  if j.stop = true then 6 else if raiB j.f j.k nm v = true then (if j.rs.length < 30 then (if j.fail = 0 then 6 else 0) else 4) else raiE j.f j.k nm v
def lraB (j : LS) (nm : ByteArray) (v : Int) : Bool := lraG j nm v && decide (¬ j.fail = 0)
def lraT (j : LS) (nm : ByteArray) (v : Int) (n : Nat) : LS :=
  if lraG j nm v = true then (if j.fail = 0 then { j with half := n / 2, stop := true } else { j with rs := j.rs ++ [(nm, v, n)], fail := lessF j.fail }) else j
/-- Synced. -/
def synE (j : LS) : Int := if j.stop = true then 6 else if j.fail = 0 then 6 else 0
def synT (j : LS) : LS := if j.stop = true then j else if j.fail = 0 then { j with stop := true } else { j with safe := j.bytes, fail := lessF j.fail }
/-- Told when to stop. -/
def faiT (j : LS) (n : Int) : LS := { j with fail := if n < 0 then -1 else n }
/-- How many bytes are left behind a crash, and how many records are whole among so many. -/
def highL (j : LS) (keep : Int) : Nat := if keep ≤ 0 then j.safe else if keep < (j.bytes : Int) - j.safe then j.safe + keep.toNat else j.bytes
def leftL : List Rcd → Nat → Nat
  | [], _ => 0
  | r :: rs, n => if r.2.2 ≤ n then leftL rs (n - r.2.2) + 1 else 0
def craT (j : LS) (keep : Int) : LS :=
  let rs := j.rs.take (leftL j.rs (highL j keep))
  ⟨rs, 0, lenL rs, -1, false⟩
theorem leftL_le : ∀ (rs : List Rcd) (n : Nat), leftL rs n ≤ rs.length
  | [], _ => Nat.le_refl _
  | r :: rs, n => by
    unfold leftL
    split
    · have := leftL_le rs (n - r.2.2); simp; omega
    · simp
theorem leftL_len : ∀ (rs : List Rcd) (n : Nat), lenL (rs.take (leftL rs n)) ≤ n
  | [], n => by simp [leftL, lenL]
  | r :: rs, n => by
    unfold leftL
    split
    · have := leftL_len rs (n - r.2.2)
      rw [List.take_succ_cons]
      unfold lenL at this ⊢
      rw [List.map_cons, List.sum_cons]
      omega
    · simp [lenL]
/-- Just the records whose end is not above are left. -/
theorem leftL_iff : ∀ (rs : List Rcd) (n i : Nat), i ≤ rs.length → (lenL (rs.take i) ≤ n ↔ i ≤ leftL rs n)
  | [], n, i, hi => by
    have : i = 0 := by simpa using hi
    subst this
    simp [leftL, lenL]
  | r :: rs, n, 0, hi => by simp [lenL]
  | r :: rs, n, i + 1, hi => by
    have hi' : i ≤ rs.length := by simpa using hi
    rw [List.take_succ_cons]
    have e : lenL (r :: rs.take i) = r.2.2 + lenL (rs.take i) := by unfold lenL; rw [List.map_cons, List.sum_cons]
    rw [e]
    unfold leftL
    split
    · rename_i h
      have := leftL_iff rs (n - r.2.2) i hi'
      omega
    · rename_i h
      omega
/-- Each record has two bytes or more, and not many; there are thirty at most; a half one is there only where it has stopped. -/
structure OkL (j : LS) : Prop where
  many : j.rs.length ≤ 30
  two : ∀ r ∈ j.rs, 2 ≤ r.2.2 ∧ r.2.2 ≤ 1000
  half : j.half ≤ 500
  stop : j.stop = false → j.half = 0
  safe : j.safe ≤ lenL j.rs
  fail : -1 ≤ j.fail
  rise : ∀ (i : Nat) (r : Rcd), j.rs[i]? = some r → raiB (cntL (j.rs.take i)).1 (cntL (j.rs.take i)).2 r.1 r.2.1 = true
  cut : ∃ i, i ≤ j.rs.length ∧ j.safe = lenL (j.rs.take i)
theorem lenL_le : ∀ {rs : List Rcd}, (∀ r ∈ rs, 2 ≤ r.2.2 ∧ r.2.2 ≤ 1000) → lenL rs ≤ 1000 * rs.length
  | [], _ => by simp [lenL]
  | r :: rs, h => by
    have h1 := lenL_le (rs := rs) (fun x hx => h x (List.mem_cons_of_mem _ hx))
    have h2 := (h r (List.mem_cons_self ..)).2
    unfold lenL at h1 ⊢
    rw [List.map_cons, List.sum_cons, List.length_cons]
    omega
section
variable {j : LS}
theorem OkL.bytes (h : OkL j) : j.bytes ≤ 31000 ∧ j.safe ≤ j.bytes := by
  have h1 := lenL_le h.two
  have h2 := h.many
  have h3 := h.half
  have h4 := h.safe
  unfold LS.bytes
  omega
theorem okL_new : OkL newL :=
  ⟨by simp [newL], fun r h => (by cases h), by simp [newL], fun _ => rfl, by simp [newL], by simp [newL], fun i r h => by simp [newL] at h, 0, by simp [newL], rfl⟩
theorem lraG_iff {nm : ByteArray} {v : Int} : lraG j nm v = true ↔ j.stop = false ∧ raiB j.f j.k nm v = true ∧ j.rs.length < 30 := by
  unfold lraG
  rw [Bool.and_eq_true, Bool.and_eq_true, decide_eq_true_iff, decide_eq_true_iff, and_assoc]
theorem okL_raise {nm : ByteArray} {v : Int} {n : Nat} (h : OkL j) (h2 : 2 ≤ n) (h3 : n ≤ 1000) : OkL (lraT j nm v n) := by
  unfold lraT
  by_cases hg : lraG j nm v = true
  · rw [if_pos hg]
    obtain ⟨g1, g2, g3⟩ := lraG_iff.1 hg
    by_cases hf : j.fail = 0
    · rw [if_pos hf]
      exact ⟨h.many, h.two, by show n / 2 ≤ 500; omega, fun hs => (by cases hs), h.safe, h.fail, h.rise, h.cut⟩
    · rw [if_neg hf]
      refine ⟨by simp; omega, fun r hr => ?_, h.half, h.stop, ?_, ?_, fun i r hr => ?_, ?_⟩
      · rcases List.mem_append.1 hr with hr | hr
        · exact h.two r hr
        · rw [List.mem_singleton.1 hr]; exact ⟨h2, h3⟩
      · show j.safe ≤ lenL (j.rs ++ [(nm, v, n)])
        rw [lenL_snoc]
        have := h.safe
        omega
      · show -1 ≤ lessF j.fail
        unfold lessF
        have := h.fail
        split <;> omega
      · have hr' : (j.rs ++ [(nm, v, n)])[i]? = some r := hr
        by_cases hi : i < j.rs.length
        · rw [List.getElem?_append_left hi] at hr'
          show raiB (cntL ((j.rs ++ [(nm, v, n)]).take i)).1 (cntL ((j.rs ++ [(nm, v, n)]).take i)).2 r.1 r.2.1 = true
          rw [List.take_append_of_le_length (by omega)]
          exact h.rise i r hr'
        · rw [List.getElem?_append_right (by omega)] at hr'
          have h0 : i - j.rs.length = 0 := by
            by_cases h0 : i - j.rs.length = 0
            · exact h0
            · rw [List.getElem?_eq_none (by simp; omega)] at hr'; cases hr'
          rw [h0] at hr'
          cases hr'
          show raiB (cntL ((j.rs ++ [(nm, v, n)]).take i)).1 (cntL ((j.rs ++ [(nm, v, n)]).take i)).2 nm v = true
          rw [show i = j.rs.length by omega, List.take_left]
          exact g2
      · obtain ⟨i, hi, e⟩ := h.cut
        refine ⟨i, by simp; omega, ?_⟩
        show j.safe = lenL ((j.rs ++ [(nm, v, n)]).take i)
        rw [List.take_append_of_le_length hi]
        exact e
  · rw [if_neg hg]; exact h
theorem okL_sync (h : OkL j) : OkL (synT j) := by
  unfold synT
  by_cases hs : j.stop = true
  · rw [if_pos hs]; exact h
  · rw [if_neg hs]
    by_cases hf : j.fail = 0
    · rw [if_pos hf]
      exact ⟨h.many, h.two, h.half, fun hs => (by cases hs), h.safe, h.fail, h.rise, h.cut⟩
    · rw [if_neg hf]
      have hz := h.stop (by simpa using hs)
      have hb : j.bytes = lenL j.rs := by unfold LS.bytes; omega
      refine ⟨h.many, h.two, h.half, h.stop, ?_, ?_, h.rise, j.rs.length, Nat.le_refl _, ?_⟩
      · show j.bytes ≤ lenL j.rs; omega
      · show -1 ≤ lessF j.fail
        unfold lessF
        have := h.fail
        split <;> omega
      · show j.bytes = lenL (j.rs.take j.rs.length)
        rw [List.take_length]; exact hb
theorem okL_fail (h : OkL j) (n : Int) : OkL (faiT j n) :=
  ⟨h.many, h.two, h.half, h.stop, h.safe, by show -1 ≤ (if n < 0 then -1 else n); split <;> omega, h.rise, h.cut⟩
theorem okL_crash (h : OkL j) (keep : Int) : OkL (craT j keep) := by
  have hl := leftL_le j.rs (highL j keep)
  have h1 := h.many
  refine ⟨?_, fun r hr => h.two r (List.mem_of_mem_take hr), by show (0 : Nat) ≤ 500; omega, fun _ => rfl, Nat.le_refl _, by show (-1 : Int) ≤ -1; omega, fun i r hr => ?_, _, Nat.le_refl _, ?_⟩
  · show (j.rs.take (leftL j.rs (highL j keep))).length ≤ 30
    rw [List.length_take]
    omega
  · have hr' : (j.rs.take (leftL j.rs (highL j keep)))[i]? = some r := hr
    show raiB (cntL ((j.rs.take (leftL j.rs (highL j keep))).take i)).1 (cntL ((j.rs.take (leftL j.rs (highL j keep))).take i)).2 r.1 r.2.1 = true
    have hi : i < leftL j.rs (highL j keep) := by
      by_cases hi : i < leftL j.rs (highL j keep)
      · exact hi
      · rw [List.getElem?_eq_none (by rw [List.length_take]; omega)] at hr'; cases hr'
    rw [List.getElem?_take_of_lt hi] at hr'
    rw [List.take_take, Nat.min_eq_left (by omega)]
    exact h.rise i r hr'
  · show lenL (j.rs.take (leftL j.rs (highL j keep))) = lenL ((j.rs.take (leftL j.rs (highL j keep))).take (j.rs.take (leftL j.rs (highL j keep))).length)
    rw [List.take_length]
end
end Go.Proofs.YtjpkkhphelnpiaaDoor.M
