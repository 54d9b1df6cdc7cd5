/-
  Plain mathematics on a log's bytes: a record as bytes, a name, a blank, a number's digits and byte 10; how records that stand one behind the other are told apart at byte 10, how many of them are whole among so many bytes, and how one is read.
-/
import Derived.Test.YtgnpffkfbacejaaGreatDoorPack1
import Derived.Lib.AppendStr
import Derived.Lib.Bytes
namespace Go.Proofs.YtgnpffkfbacejaaGreatDoor.M
open Go.RowKit
set_option linter.unusedVariables false

def endB : ByteArray := { data := #[10] }
/-- A record's bytes ahead of its last one. -/
def bodL (nm : ByteArray) (v : Int) : List UInt8 := nm.data.toList ++ 32 :: Lib.itoa v
def recL (nm : ByteArray) (v : Int) : List UInt8 := bodL nm v ++ [10]
def recB (nm : ByteArray) (v : Int) : ByteArray := nm ++ spcB ++ { data := (Lib.itoa v).toArray } ++ endB
theorem recB_data (nm : ByteArray) (v : Int) : (recB nm v).data.toList = recL nm v := by
  unfold recB recL bodL spcB endB
  simp [ByteArray.data_append]
theorem recB_size (nm : ByteArray) (v : Int) : (recB nm v).size = (recL nm v).length := by
  rw [← recB_data, Array.length_toList]
  rfl
/-- What is raised is a name, and a number from 1 to 1000. -/
def GoodR (nm : ByteArray) (v : Int) : Prop := nameB nm = true ∧ 1 ≤ v ∧ v ≤ 1000
theorem letB_ten : letB 10 = false := by decide
theorem letS_ten {s : ByteArray} (h : letS s = true) : (10 : UInt8) ∉ s.data.toList := by
  intro hm
  unfold letS at h
  have := List.all_eq_true.1 h _ hm
  rw [letB_ten] at this
  cases this
theorem letS_spc {s : ByteArray} (h : letS s = true) : (32 : UInt8) ∉ s.data.toList := by
  intro hm
  unfold letS at h
  have := List.all_eq_true.1 h _ hm
  revert this
  decide
theorem dec_no (c : UInt8) (hc : c.toNat < 48) : ∀ (k n : Nat), n ≤ k → c ∉ Lib.decDigits n
  | k, n, hk => by
    have key : ∀ d : Nat, d < 10 → c ≠ UInt8.ofNat (48 + d) := by
      intro d hd e
      have e2 := congrArg UInt8.toNat e
      have e3 : (UInt8.ofNat (48 + d)).toNat = 48 + d := by simp; omega
      rw [e3] at e2
      omega
    by_cases h : n < 10
    · rw [dec_small h]
      simp only [List.mem_singleton]
      exact key n h
    · cases k with
      | zero => omega
      | succ k =>
        rw [dec_big h]
        simp only [List.mem_append, List.mem_singleton]
        intro hm
        rcases hm with hm | hm
        · exact dec_no c hc k (n / 10) (by omega) hm
        · exact key _ (Nat.mod_lt _ (by omega)) hm
theorem nameB_parts {nm : ByteArray} (h : nameB nm = true) : letS nm = true ∧ 1 ≤ nm.size ∧ nm.size ≤ 8 := by
  unfold nameB at h
  rw [Bool.and_eq_true, decide_eq_true_iff] at h
  exact ⟨h.1, h.2.1, h.2.2⟩
theorem itoa_len {v : Int} (h1 : 1 ≤ v) (h2 : v ≤ 1000) : 1 ≤ (Lib.itoa v).length ∧ (Lib.itoa v).length ≤ 4 := by
  have h4 := itoa_four h1 h2
  have e : ({ data := (Lib.itoa v).toArray } : ByteArray).size = (Lib.itoa v).length := by
    show (Lib.itoa v).toArray.size = _
    simp
  rw [e] at h4
  refine ⟨?_, h4⟩
  obtain ⟨n, rfl⟩ : ∃ n : Nat, v = n := ⟨v.toNat, by omega⟩
  rw [itoa_nat]
  have := dec_ne n
  cases hd : Lib.decDigits n with
  | nil => exact absurd hd this
  | cons a r => simp
theorem size_list (s : ByteArray) : s.data.toList.length = s.size := by rw [Array.length_toList]; rfl
theorem bod_len {nm : ByteArray} {v : Int} (h : GoodR nm v) : 3 ≤ (bodL nm v).length ∧ (bodL nm v).length ≤ 13 := by
  obtain ⟨h1, h2, h3⟩ := h
  obtain ⟨_, h4, h5⟩ := nameB_parts h1
  have := itoa_len h2 h3
  unfold bodL
  rw [List.length_append, List.length_cons, size_list]
  omega
theorem rec_len {nm : ByteArray} {v : Int} : (recL nm v).length = (bodL nm v).length + 1 := by unfold recL; simp
theorem bod_ten {nm : ByteArray} {v : Int} (h : GoodR nm v) : (10 : UInt8) ∉ bodL nm v := by
  obtain ⟨h1, h2, h3⟩ := h
  obtain ⟨h4, _, _⟩ := nameB_parts h1
  obtain ⟨n, rfl⟩ : ∃ n : Nat, v = n := ⟨v.toNat, by omega⟩
  unfold bodL
  rw [itoa_nat]
  simp only [List.mem_append, List.mem_cons]
  rintro (hm | hm | hm)
  · exact letS_ten h4 hm
  · revert hm; decide
  · exact dec_no 10 (by decide) n n (Nat.le_refl _) hm
/-- Where byte 10 is first. -/
theorem index_at {a r : List UInt8} {c : UInt8} (h : c ∉ a) : Lib.indexByte (a ++ c :: r) c = a.length := by
  induction a with
  | nil => simp [Lib.indexByte]
  | cons b a ih =>
    have hb : ¬ (b == c) = true := by
      intro e
      exact h (by simp [beq_iff_eq.1 e])
    rw [List.cons_append, Lib.indexByte, if_neg hb, ih (fun hm => h (by simp [hm])), if_neg (by simp)]
    simp
theorem index_none {l : List UInt8} {c : UInt8} (h : c ∉ l) : Lib.indexByte l c = -1 := by
  rcases index_parts l c with ⟨h1, _⟩ | ⟨a, r, rfl, _, _⟩
  · exact h1
  · exact absurd (by simp) h
theorem bod_cut {nm : ByteArray} {v : Int} (h : GoodR nm v) : Lib.indexByte (bodL nm v) 32 = nm.size := by
  unfold bodL
  rw [index_at (letS_spc (nameB_parts h.1).1), size_list]
theorem bod_num {nm : ByteArray} {v : Int} (h : GoodR nm v) : Lib.atoi (Lib.itoa v) = some v := by
  obtain ⟨h1, h2, h3⟩ := h
  have h4 := (itoa_len h2 h3).2
  obtain ⟨n, rfl⟩ : ∃ n : Nat, v = n := ⟨v.toNat, by omega⟩
  rw [itoa_nat] at h4 ⊢
  exact numO_atoi (numO_dec h4)
/-- Records, one behind the other. -/
def recsL (rs : List Rcd) : List UInt8 := rs.flatMap fun r => recL r.1 r.2.1
theorem recsL_nil : recsL [] = [] := rfl
theorem recsL_cons (r : Rcd) (rs : List Rcd) : recsL (r :: rs) = recL r.1 r.2.1 ++ recsL rs := rfl
theorem recsL_append (a b : List Rcd) : recsL (a ++ b) = recsL a ++ recsL b := by unfold recsL; rw [List.flatMap_append]
theorem recsL_snoc (rs : List Rcd) (r : Rcd) : recsL (rs ++ [r]) = recsL rs ++ recL r.1 r.2.1 := by rw [recsL_append, recsL_cons, recsL_nil, List.append_nil]
/-- All are what was raised, and their lengths are told. -/
def AllR (rs : List Rcd) : Prop := ∀ r ∈ rs, GoodR r.1 r.2.1 ∧ r.2.2 = (recL r.1 r.2.1).length
theorem AllR.take {rs : List Rcd} (h : AllR rs) (n : Nat) : AllR (rs.take n) := fun r hr => h r (List.mem_of_mem_take hr)
theorem AllR.snoc {rs : List Rcd} (h : AllR rs) {nm : ByteArray} {v : Int} (hg : GoodR nm v) : AllR (rs ++ [(nm, v, (recL nm v).length)]) := by
  intro r hr
  rcases List.mem_append.1 hr with hr | hr
  · exact h r hr
  · rw [List.mem_singleton.1 hr]; exact ⟨hg, rfl⟩
theorem lenL_cons (r : Rcd) (rs : List Rcd) : lenL (r :: rs) = r.2.2 + lenL rs := by unfold lenL; rw [List.map_cons, List.sum_cons]
theorem recs_len : ∀ {rs : List Rcd}, AllR rs → (recsL rs).length = lenL rs
  | [], _ => rfl
  | r :: rs, h => by
    rw [recsL_cons, List.length_append, lenL_cons, recs_len (rs := rs) (fun x hx => h x (List.mem_cons_of_mem _ hx)), (h r (List.mem_cons_self ..)).2]
/-- What is left of records and a piece without byte 10 behind them, cut anywhere: whole records, and a piece without byte 10. -/
theorem left_parts : ∀ {rs : List Rcd} (tl : List UInt8) (n : Nat), AllR rs → (10 : UInt8) ∉ tl → n ≤ (recsL rs ++ tl).length →
    ∃ t2, (recsL rs ++ tl).take n = recsL (rs.take (leftL rs n)) ++ t2 ∧ (10 : UInt8) ∉ t2
  | [], tl, n, _, ht, _ => ⟨tl.take n, by simp [recsL, leftL], fun h => ht (List.mem_of_mem_take h)⟩
  | r :: rs, tl, n, ha, ht, hn => by
    have hr := ha r (List.mem_cons_self ..)
    have ha' : AllR rs := fun x hx => ha x (List.mem_cons_of_mem _ hx)
    rw [recsL_cons, List.append_assoc]
    unfold leftL
    by_cases h : r.2.2 ≤ n
    · rw [if_pos h]
      rw [recsL_cons, List.append_assoc, List.length_append] at hn
      obtain ⟨t2, e, h2⟩ := left_parts tl (n - r.2.2) ha' ht (by omega)
      refine ⟨t2, ?_, h2⟩
      rw [List.take_succ_cons, recsL_cons, List.append_assoc, ← e]
      have e1 : n = (recL r.1 r.2.1).length + (n - r.2.2) := by omega
      rw [e1, List.take_length_add_append]
      congr 2
      omega
    · rw [if_neg h]
      refine ⟨(recL r.1 r.2.1 ++ (recsL rs ++ tl)).take n, by simp [recsL], ?_⟩
      rw [List.take_append_of_le_length (by omega)]
      intro hm
      unfold recL at hm
      have hl : n ≤ (bodL r.1 r.2.1).length := by have := hr.2; rw [rec_len] at this; omega
      rw [List.take_append_of_le_length hl] at hm
      exact bod_ten hr.1 (List.mem_of_mem_take hm)
/-- Half a record has no byte 10. -/
theorem half_ten {nm : ByteArray} {v : Int} (h : GoodR nm v) : (10 : UInt8) ∉ (recL nm v).take ((recL nm v).length / 2) := by
  have := bod_len h
  unfold recL
  rw [List.take_append_of_le_length (by simp; omega)]
  exact fun hm => bod_ten h (List.mem_of_mem_take hm)
theorem half_len (nm : ByteArray) (v : Int) : ((recL nm v).take ((recL nm v).length / 2)).length = (recL nm v).length / 2 := by rw [List.length_take]; omega
theorem half_size (nm : ByteArray) (v : Int) : ((recB nm v).extract 0 ((recB nm v).size / 2)).data.toList = (recL nm v).take ((recL nm v).length / 2) := by
  rw [recB_size]
  simp [ByteArray.data_extract, recB_data]
/-- What is raised is a name, and a number from 1 on. -/
theorem good_of {f : ByteArray → Int} {k : Nat} {nm : ByteArray} {v : Int} (h : raiB f k nm v = true) (hf : 0 ≤ f nm) : GoodR nm v := by
  obtain ⟨h1, h2, h3, _⟩ := raiB_iff.1 h
  exact ⟨h1, by omega, h2.2⟩
end Go.Proofs.YtgnpffkfbacejaaGreatDoor.M
