/-
  Contract of stairref1's Read: a text as an image, or what is wrong with it, as the plain mathematics says; memory that was there stays as it was.
-/
import Derived.Test.YtdbpeikijonjmaaDoorRef4
import Derived.Test.YtdbpeikijonjmaaDoorImg5
namespace Go.Proofs.YtdbpeikijonjmaaDoor.M
theorem parO_cut {s : ByteArray} {ps : List ByteArray} (h : ps.map (fun x => x.data.toList) = cutL s.data.toList) :
    (¬ ps.length = 3 → parO s = none) ∧ ∀ x y z, ps = [x, y, z] → parO s = (numO y.data.toList).map fun n => (x, n, z) := by
  constructor
  · intro h3
    have hc : ¬ (cutL s.data.toList).length = 3 := by rw [← h, List.length_map]; exact h3
    unfold parO
    split
    · rename_i a b c e
      rw [e] at hc
      exact absurd rfl hc
    · rfl
  · intro x y z e
    rw [e] at h
    unfold parO
    rw [← h]
    simp only [List.map_cons, List.map_nil, bs_data]
end Go.Proofs.YtdbpeikijonjmaaDoor.M
namespace Go.Proofs.YtdbpeikijonjmaaDoor.Ref
open Go.ChangeShapes Go.WideShapes Go.ChangeAt Go.RowKit
open Go.Proofs.YtdbpeikijonjmaaDoor.M Go.Proofs.YtdbpeikijonjmaaDoor.Image
set_option linter.unusedVariables false

theorem part_size {s : ByteArray} {ps : List ByteArray} (h : ps.map (fun x => x.data.toList) = cutL s.data.toList) : ∀ x ∈ ps, x.size ≤ s.size := by
  have key : ∀ (l acc p : List UInt8), p ∈ cutAcc acc l → p.length ≤ acc.length + l.length := by
    intro l
    induction l with
    | nil => intro acc p hp; simp [cutAcc] at hp; rw [hp]; simp
    | cons b l ih =>
      intro acc p hp
      rw [cutAcc] at hp
      split at hp
      · rcases List.mem_cons.1 hp with e | e
        · rw [e]; simp
        · have := ih [] p e
          simp at this ⊢
          omega
      · have := ih (acc ++ [b]) p hp
        simp at this ⊢
        omega
  intro x hx
  have hm : x.data.toList ∈ cutL s.data.toList := by rw [← h]; exact List.mem_map.2 ⟨x, hx, rfl⟩
  have := key _ _ _ hm
  rw [len_size, len_size] at this
  simpa using this

set_option maxHeartbeats 8000000 in
theorem read_any (s : ByteArray) (w : World) (hs : s.size ≤ 1048576) :
    Calls Tryd.prog 14 #[.string s] w fun e w' => e = .returned (.tuple #[.agg (parC s), .int .i64 (parE s)]) ∧ Below w.heap.size w w' := by
  have HB0 := hide (below_new w (.cells noImg 23))
  have HG0 := hide (blk_new w (.cells noImg 23))
  unfold noImg imgC at HB0 HG0
  go_enter Tryd.func14, Tryd.ntmps14
  go_wp2_with (fail)
  refine (cut_any s _ hs).mono ?_
  rintro e w1 ⟨⟨v, ps, rfl, hown, hps⟩, hb1⟩
  have HB1 := hide (below_on HB0.out hb1)
  have HG1 := hide (blk_below HG0.out hb1)
  obtain ⟨a, cap, hv, hcell⟩ := hown.slice
  obtain ⟨o1, o2⟩ := parO_cut hps
  have hsz := part_size hps
  subst hv
  clear hb1 HB0 HG0 hown hps
  by_cases h3 : ps.length = 3
  · obtain ⟨x, y, z, rfl⟩ := three_of h3
    have HO := hide (o2 x y z rfl)
    obtain ⟨g, rfl, p0⟩ := hcell 0 x rfl
    obtain ⟨g', e1, p1⟩ := hcell 1 y rfl
    cases e1
    obtain ⟨g', e2, p2⟩ := hcell 2 z rfl
    cases e2
    have hx : x.size ≤ s.size := hsz x (by simp)
    have hy : y.size ≤ s.size := hsz y (by simp)
    have hz : z.size ≤ s.size := hsz z (by simp)
    clear o1 o2 hcell hsz h3
    rw [show [x, y, z].length = 3 from rfl]
    go_wp2_with (fail)
    refine (number_any y _ (by omega)).mono ?_
    rintro e w2 ⟨rfl, rfl⟩
    cases hy2 : numO y.data.toList with
    | none =>
      obtain ⟨n1, n2⟩ := num_none hy2
      rw [n1]
      obtain ⟨q1, q2⟩ := par_none (s := s) (by rw [HO.out, hy2]; rfl)
      have P1 := hide q1
      have P2 := hide q2
      clear n1 n2 q1 q2 hy2
      obtain ⟨r0, r1, r2⟩ := img_cells (nm := { data := #[] }) (v := 0) (cd := { data := #[] }) HG1.out
      obtain ⟨g0, g1, g2⟩ := img_free HG1.out
      rw [show (none : Option Nat).isSome = false from rfl]
      go_wp2
      rw [three_set HG1.out]
      refine bodyPost_ret (v := .tuple #[.agg noImg, .int .i64 2]) ?_ rfl ⟨?_, ?_⟩
      · exact results_img (p := 2) (u := 3) rfl _ _ w.heap.size _ _ rfl rfl (setRow_heap _ _ _ _ _ _ HG1.out) rfl
      · rw [P1.out, P2.out]
      · exact below_setRow HB1.out (by omega) _
    | some n =>
      obtain ⟨n1, n2⟩ := num_some hy2
      rw [n1]
      obtain ⟨q1, q2⟩ := par_some (s := s) (a := x) (n := n) (c := z) (by rw [HO.out, hy2]; rfl)
      have P1 := hide q1
      have P2 := hide q2
      clear n1 n2 q1 q2 hy2
      rw [show (some n : Option Nat).isSome = true from rfl]
      have hne := World.new_ne w2 _ p0
      go_wp2_with (fail)
      go_region_held3 (fun w' => w'.cell? ⟨g, 0, none⟩ = some (.string x) ∧ w'.cell? ⟨g, 2, none⟩ = some (.string z)) (go_keep) (fail)
      have hwa : Below w2.heap.size w2 (w2.alloc (.cells (imgC x n z) 23)).drew := Below.drew (below_new _ _)
      have HM3 := hide (show (w2.alloc (.cells (imgC x n z) 23)).drew.heap[w2.heap.size]? = some (.cells (imgC x n z) 23) from blk_new _ _)
      have HB3 := hide (below_on HB1.out hwa)
      have HG3 := hide (blk_below HG1.out hwa)
      clear hwa p0 p1 p2 HB1 HG1
      unfold imgC at HM3 HB3 HG3
      go_wp2_with (fail)
      refine (image_any x z n _ (by omega) (by omega)).mono ?_
      rintro e w4 ⟨rfl, hb4⟩
      have HB4 := hide (below_on HB3.out hb4)
      have HG4 := hide (blk_below HG3.out hb4)
      have HM4 := hide (blk_below HM3.out hb4)
      clear hb4 HB3 HG3 HM3
      obtain ⟨r0, r1, r2⟩ := img_cells (nm := { data := #[] }) (v := 0) (cd := { data := #[] }) HG4.out
      obtain ⟨g0, g1, g2⟩ := img_free HG4.out
      by_cases hE : imgE x n z = 0
      · have HE := hide hE
        have P3 := hide (show parC s = imgC x n z by rw [P2.out, if_pos hE])
        rw [hE]
        clear hE
        obtain ⟨m0, m1, m2⟩ := img_cells (nm := x) (v := n) (cd := z) HM4.out
        go_wp2
        rw [three_set HG4.out]
        refine bodyPost_ret (v := .tuple #[.agg (imgC x n z), .int .i64 0]) ?_ rfl ⟨?_, ?_⟩
        · exact results_img (p := 2) (u := 3) rfl _ _ w.heap.size _ _ rfl rfl (setRow_heap _ _ _ _ _ _ HG4.out) rfl
        · rw [P1.out, P3.out, HE.out]
        · exact below_setRow HB4.out (by omega) _
      · have P3 := hide (show parC s = noImg by rw [P2.out, if_neg hE])
        go_wp2
        rw [three_set HG4.out]
        refine bodyPost_ret (v := .tuple #[.agg noImg, .int .i64 (imgE x n z)]) ?_ rfl ⟨?_, ?_⟩
        · exact results_img (p := 2) (u := 3) rfl _ _ w.heap.size _ _ rfl rfl (setRow_heap _ _ _ _ _ _ HG4.out) rfl
        · rw [P1.out, P3.out]
        · exact below_setRow HB4.out (by omega) _
  · obtain ⟨q1, q2⟩ := par_none (o1 h3)
    have P1 := hide q1
    have P2 := hide q2
    clear q1 q2 o1 o2 hcell hsz
    have h3z : ¬ (ps.length : Int) = 3 := by omega
    generalize ps.length = L at h3 h3z
    obtain ⟨r0, r1, r2⟩ := img_cells (nm := { data := #[] }) (v := 0) (cd := { data := #[] }) HG1.out
    obtain ⟨g0, g1, g2⟩ := img_free HG1.out
    go_wp2
    rw [three_set HG1.out]
    refine bodyPost_ret (v := .tuple #[.agg noImg, .int .i64 2]) ?_ rfl ⟨?_, ?_⟩
    · exact results_img (p := 2) (u := 3) rfl _ _ w.heap.size _ _ rfl rfl (setRow_heap _ _ _ _ _ _ HG1.out) rfl
    · rw [P1.out, P2.out]
    · exact below_setRow HB1.out (by omega) _
end Go.Proofs.YtdbpeikijonjmaaDoor.Ref
