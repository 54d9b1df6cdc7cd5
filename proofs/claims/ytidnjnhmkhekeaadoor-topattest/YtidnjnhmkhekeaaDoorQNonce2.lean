/-
  Contracts of package nonce's Use over this translation (by slices.Index and slices.Delete of the shelf): what it returns, what becomes of the object, and that all else stays as it was.
-/
import Derived.Test.YtidnjnhmkhekeaaDoorQNonTri
import Derived.Test.YtidnjnhmkhekeaaDoorQShelfS
import Derived.Shelf.Slices.Turned
import Derived.Shelf.Slices.Delete
namespace Go.Proofs.YtidnjnhmkhekeaaDoor.Nonce
open Go.ChangeShapes Go.WideShapes Go.ChangeAt Go.RowKit
open Go.Proofs.YtidnjnhmkhekeaaDoor.M
set_option linter.unusedVariables false

/-- Where a number is first. -/
theorem first_at {x : Int} : ∀ {xs : List Int}, x ∈ xs → ∃ i, i < xs.length ∧ xs.getD i 0 = x ∧ ∀ j, j < i → xs.getD j 0 ≠ x
  | [], h => by simp at h
  | y :: t, h => by
    by_cases e : y = x
    · exact ⟨0, by simp, by simpa using e, fun j hj => by omega⟩
    · have ht : x ∈ t := by
        rcases List.mem_cons.1 h with h | h
        · exact absurd h.symm e
        · exact h
      obtain ⟨i, h1, h2, h3⟩ := first_at ht
      refine ⟨i + 1, by simpa using h1, by simpa using h2, fun j hj => ?_⟩
      cases j with
      | zero => simpa using e
      | succ j => simpa using h3 j (by omega)
theorem erase_first {x : Int} : ∀ {xs : List Int} {i : Nat}, i < xs.length → xs.getD i 0 = x → (∀ j, j < i → xs.getD j 0 ≠ x) → xs.erase x = xs.take i ++ xs.drop (i + 1)
  | [], i, h, _, _ => by simp at h
  | y :: t, 0, _, h, _ => by simp at h; subst h; simp
  | y :: t, i + 1, h1, h2, h3 => by
    have hy : y ≠ x := by simpa using h3 0 (by omega)
    have ih := erase_first (x := x) (xs := t) (i := i) (by simpa using h1) (by simpa using h2) (fun j hj => by simpa using h3 (j + 1) (by omega))
    rw [List.erase_cons_tail (by simp [hy]), ih]
    simp
theorem own_some {w : World} {B : Nat} {T : TypeId} {v : Value} {xs : List Int} (h : Own w B T v xs) (hx : 0 < xs.length) : ∃ g cap cur, v = .slice (some ⟨g, 0, none⟩) xs.length cap ∧ B ≤ g ∧ w.heap[g]? = some (.cells cur T (0, 0)) ∧ xs.length ≤ cap ∧ cap ≤ maxLen ∧ cur.size = cap ∧ cur.toList.take xs.length = xs.map (Value.int .i64) := by
  obtain ⟨_, h2⟩ := h
  rcases h2 with ⟨_, h3⟩ | ⟨g, cap, cur, h3, h4, h5, h6, h7, h8, h9⟩
  · omega
  · exact ⟨g, cap, cur, h3, h4, h5, h6, h7, by simpa using h8, by simpa using h9⟩
theorem cells_own {w : World} {g cap : Nat} {T : TypeId} {cur : Array Value} {xs : List Int} (hg : w.heap[g]? = some (.cells cur T (0, 0))) (h9 : cur.toList.take xs.length = xs.map (Value.int .i64)) :
    ∀ j, j < xs.length → w.cell? ⟨g, 0 + j, none⟩ = some (.int .i64 (xs.getD j 0)) := by
  intro j hj
  rw [cell_of_row w g _ _ _ _ hg, Nat.zero_add]
  have h := congrArg (fun l => l[j]?) h9
  simp only [List.getElem?_take, hj, if_true, List.getElem?_map] at h
  rw [← Array.getElem?_toList, h, List.getElem?_eq_getElem hj, List.getD_eq_getElem?_getD, List.getElem?_eq_getElem hj]
  rfl

theorem index_miss {w : World} {B : Nat} {v : Value} {xs : List Int} {x : Int} (h : Own w B 3 v xs) (hl : xs.length ≤ 30) (hx : x ∉ xs) :
    Calls Tryd.prog 69 #[v, .int .i64 x] w fun e w' => e = .returned (.int .i64 (-1)) ∧ w' = w := by
  by_cases h0 : 0 < xs.length
  · obtain ⟨g, cap, cur, rfl, _, h5, h6, h7, h8, h9⟩ := own_some h h0
    have hi := Any.slices_Index_int Tryd.lays108 g 0 xs.length cap xs x w (Nat.le_refl _) (by omega) (cells_own (cap := cap) h5 h9)
    rw [Lib.idxOf_miss xs xs.length x (fun j hj e => hx (by rw [← e, List.getD_eq_getElem?_getD, List.getElem?_eq_getElem hj]; exact List.getElem_mem _))] at hi
    exact hi
  · have hn : xs = [] := List.length_eq_zero_iff.1 (by omega)
    subst hn
    obtain ⟨a, cap, rfl, _, _⟩ := h.row
    exact Any.slices_Index_int_empty Tryd.lays108 a cap x w
theorem index_hit {w : World} {B : Nat} {v : Value} {xs : List Int} {x : Int} {i : Nat} (h : Own w B 3 v xs) (hl : xs.length ≤ 30) (h1 : i < xs.length) (h2 : xs.getD i 0 = x) (h3 : ∀ j, j < i → xs.getD j 0 ≠ x) :
    Calls Tryd.prog 69 #[v, .int .i64 x] w fun e w' => e = .returned (.int .i64 i) ∧ w' = w := by
  obtain ⟨g, cap, cur, rfl, _, h5, h6, h7, h8, h9⟩ := own_some h (by omega)
  have hi := Any.slices_Index_int Tryd.lays108 g 0 xs.length cap xs x w (Nat.le_refl _) (by omega) (cells_own (cap := cap) h5 h9)
  rw [Lib.idxOf_hit xs xs.length i x h1 (Nat.le_refl _) h2 h3] at hi
  exact hi
theorem delete_own {w : World} {B g cap i : Nat} {xs : List Int} (h : Own w B 3 (.slice (some ⟨g, 0, none⟩) xs.length cap) xs) (hi : i < xs.length) :
    Calls Tryd.prog 70 #[.slice (some ⟨g, 0, none⟩) xs.length cap, .int .i64 i, .int .i64 ((i : Int) + 1)] w fun e w' => e = .returned (.slice (some ⟨g, 0, none⟩) (xs.length - 1) cap) ∧ Own w' B 3 (.slice (some ⟨g, 0, none⟩) (xs.length - 1) cap) (xs.take i ++ xs.drop (i + 1)) ∧ Only (fun k => k = g) w w' := by
  obtain ⟨g', cap', cur, hv, h4, h5, h6, h7, h8, h9⟩ := own_some h (by omega)
  cases hv
  have hc := cells_own (cap := cap) h5 h9
  have hH : Sort.Holds (Value.int .i64) w g 0 xs.toArray := by
    intro j hj
    have hj' : j < xs.length := by simpa using hj
    refine ⟨?_, by simp [World.frozen?, h5]⟩
    rw [hc j hj', getElem!_pos xs.toArray j hj, List.getD_eq_getElem?_getD, List.getElem?_eq_getElem hj']
    simp
  have hd := Any.slices_Delete_int Tryd.lays23 g 0 cap i (i + 1) xs w hH h6 (by unfold maxLen at h7; omega) (by omega) (by omega)
  have e1 : i + 1 - i = 1 := by omega
  rw [e1] at hd
  refine Calls.mono hd ?_
  rintro e w' ⟨he, q, hw⟩
  subst hw
  generalize hxs : xs.take i ++ xs.drop (i + 1) = ys at *
  have hlen : ys.length = xs.length - 1 := by rw [← hxs, List.length_append, List.length_take, List.length_drop]; omega
  have hsz : (ys ++ List.replicate 1 0).toArray.size = xs.length := by simp [hlen]; omega
  have hh : (Sort.putRow (Value.int .i64) (Sort.ahead w q) g 0 (ys ++ List.replicate 1 0).toArray).heap[g]? = some (.cells (Sort.putCells (Value.int .i64) 0 (ys ++ List.replicate 1 0).toArray cur) 3 (0, 0)) := by
    simp [Sort.putRow, Sort.mapBlock, Array.getElem?_modify, Sort.onCells, h5, Sort.ahead]
  refine ⟨he, ⟨by simp, Or.inr ⟨g, cap, _, by rw [hlen], h4, hh, by omega, h7, ?_, ?_⟩⟩, ?_⟩
  · simp [Sort.putCells, h8]
  · apply List.ext_getElem?
    intro j
    rw [Nat.mul_one, List.getElem?_take, List.getElem?_map]
    by_cases hj : j < ys.length
    · rw [if_pos hj, Array.getElem?_toList]
      have hjc : j < cur.size := by omega
      have hjd : j < (ys ++ List.replicate 1 0).toArray.size := by omega
      unfold Sort.putCells
      rw [Array.getElem?_mapIdx, Array.getElem?_eq_getElem hjc, Option.map_some, if_pos ⟨Nat.zero_le _, by omega⟩, Nat.sub_zero, getElem!_pos _ j hjd, List.getElem?_eq_getElem hj]
      simp [List.getElem_append_left hj]
    · rw [if_neg hj, List.getElem?_eq_none (by omega)]
      rfl
  · refine ⟨rfl, rfl, rfl, by simp [Sort.ahead], fun k hk hn => ?_⟩
    simp [Sort.putRow, Sort.mapBlock, Array.getElem?_modify, Ne.symm hn, Sort.ahead]

theorem use_no : UseNo := by
  intro p S last many xs x w B h hl hx
  obtain ⟨g, v, rfl, rfl, h1, h2, _⟩ := h
  have IX := hide (fun W (hW : Own W B 3 v xs) => index_miss hW hl hx)
  have HO := hide h2
  obtain ⟨a, cap, hv, _, _⟩ := h2.row
  obtain ⟨r0, r1, r2⟩ := tri_cells h1
  subst hv
  clear h1 h2
  go_enter Tryd.func35, Tryd.ntmps35
  go_wp2_with (fail)
  refine (IX.out _ HO.out).mono ?_
  rintro e w2 ⟨rfl, hw⟩
  rw [hw]
  clear hw
  go_wp2
  go_ret
  exact ⟨rfl, Below.refl _ _⟩
set_option maxHeartbeats 2000000 in
theorem use_ok : UseOk := by
  intro p S last many xs x w B h hl hx hB
  obtain ⟨g, v, rfl, rfl, h1, h2, h3, h4, h5⟩ := h
  obtain ⟨i, i1, i2, i3⟩ := first_at hx
  have IX := hide (fun W (hW : Own W B 3 v xs) => index_hit hW hl i1 i2 i3)
  have HE := hide (erase_first i1 i2 i3)
  have HO := hide h2
  have HG := hide h1
  have H5 := hide h5
  obtain ⟨gr, cap, cur, rfl, _⟩ := own_some h2 (by omega)
  have hne : gr ≠ g := fun e => h3 (by rw [e]; rfl)
  have DL := hide (fun W (hW : Own W B 3 (.slice (some ⟨gr, 0, none⟩) xs.length cap) xs) => delete_own hW i1)
  rw [← HE.out] at DL
  obtain ⟨r0, r1, r2⟩ := tri_cells h1
  have hgl := blk_lt h1
  clear h1 h2 h3 h5 i2 i3 hx
  go_enter Tryd.func35, Tryd.ntmps35
  go_wp2_with (fail)
  refine (IX.out _ HO.out).mono ?_
  rintro e w2 ⟨rfl, hw⟩
  rw [hw]
  clear hw
  have hi30 : (i : Int) < 30 := by omega
  go_wp2_with (fail)
  refine (DL.out _ HO.out).mono ?_
  rintro e w3 ⟨rfl, ho3, hq3⟩
  have hG3 := hq3.heap HG.out (fun e => hne e.symm)
  obtain ⟨s0, s1, s2⟩ := tri_cells hG3
  obtain ⟨t0, t1, t2⟩ := tri_free hG3
  have HN3 : Hid (Non (w3.setRow g #[.int .i64 last, .int .i64 many, .slice (some ⟨gr, 0, none⟩) (xs.length - 1) cap]) B (.pointer (some ⟨g, 0, none⟩)) (foot g (.slice (some ⟨gr, 0, none⟩) (xs.length - 1) cap)) last many (xs.erase x)) :=
    ⟨g, _, rfl, rfl, setRow_heap _ _ _ _ _ _ hG3, ho3.only (S := fun k => k = g) ((Only.refl (fun k => k = g) w3).setRow (b := g) rfl _) (fun k hk e => hne (by cases hk; exact e)), (fun e => hne (by cases e; rfl)), h4, H5.out⟩
  have HQ3 : Hid (Only (foot g (.slice (some ⟨gr, 0, none⟩) xs.length cap)) w (w3.setRow g #[.int .i64 last, .int .i64 many, .slice (some ⟨gr, 0, none⟩) (xs.length - 1) cap])) :=
    (((Only.refl (foot g (.slice (some ⟨gr, 0, none⟩) xs.length cap)) w).trans hq3 (fun k _ e => Or.inr (by rw [e]; rfl))).setRow (b := g) (Or.inl rfl) _ : Only (foot g (.slice (some ⟨gr, 0, none⟩) xs.length cap)) w _)
  have HF3 : Hid (∀ k, foot g (.slice (some ⟨gr, 0, none⟩) (xs.length - 1) cap) k → foot g (.slice (some ⟨gr, 0, none⟩) xs.length cap) k ∨ w.heap.size ≤ k) := fun k hk => Or.inl hk
  have HG3 := hide hG3
  clear hq3 ho3 hG3 DL IX
  go_wp2
  rw [tri_last HG3.out]
  go_ret
  exact ⟨_, rfl, HN3.out, HQ3.out, HF3.out⟩
end Go.Proofs.YtidnjnhmkhekeaaDoor.Nonce
