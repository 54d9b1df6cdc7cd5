/-
  Contract of package image's Parse: a text as an image, or what is wrong with it; memory that was there stays as it was.
-/
import Derived.Test.YtdbpeikijonjmaaDoorImg4
import Derived.Test.YtdbpeikijonjmaaDoorImgClone
import Derived.Test.YtdbpeikijonjmaaDoorSplit
import Derived.Deep.WholeRow
import Derived.Laws.ResultCell
import Derived.Laws.CopyOwn
import Derived.Deep.DeepCutAuto
namespace Go.Proofs.YtdbpeikijonjmaaDoor.M
def bs (l : List UInt8) : ByteArray := { data := l.toArray }
theorem bs_data (s : ByteArray) : bs s.data.toList = s := by cases s; rfl
/-- A text as an image: its three parts. -/
def parO (s : ByteArray) : Option (ByteArray × Nat × ByteArray) :=
  match cutL s.data.toList with
  | [a, b, c] => (numO b).map fun n => (bs a, n, bs c)
  | _ => none
def parE (s : ByteArray) : Int :=
  match parO s with
  | some (a, n, c) => imgE a n c
  | none => 2
def noImg : Array Value := imgC { data := #[] } 0 { data := #[] }
def parC (s : ByteArray) : Array Value :=
  match parO s with
  | some (a, n, c) => if imgE a n c = 0 then imgC a n c else noImg
  | none => noImg
theorem par_none {s : ByteArray} (h : parO s = none) : parE s = 2 ∧ parC s = noImg := by unfold parE parC; rw [h]; exact ⟨rfl, rfl⟩
theorem par_some {s a c : ByteArray} {n : Nat} (h : parO s = some (a, n, c)) : parE s = imgE a n c ∧ parC s = (if imgE a n c = 0 then imgC a n c else noImg) := by unfold parE parC; rw [h]; exact ⟨rfl, rfl⟩
theorem parO_len {s : ByteArray} (h : ¬ (partsB s).length = 3) : parO s = none := by
  have hc : ¬ (cutL s.data.toList).length = 3 := by
    rcases parts_cut s with e | ⟨e1, e2⟩
    · rw [← e, List.length_map]; exact h
    · omega
  unfold parO
  split
  · rename_i a b c e
    rw [e] at hc
    exact absurd rfl hc
  · rfl
theorem parO_three {s x y z : ByteArray} (h : partsB s = [x, y, z]) : parO s = (numO y.data.toList).map fun n => (x, n, z) := by
  rcases parts_cut s with e | ⟨e1, _⟩
  · rw [h] at e
    unfold parO
    rw [← e]
    simp only [List.map_cons, List.map_nil, bs_data]
  · rw [h] at e1
    cases e1
theorem three_of {α : Type} {l : List α} (h : l.length = 3) : ∃ x y z, l = [x, y, z] := by
  match l, h with
  | [x, y, z], _ => exact ⟨x, y, z, rfl⟩
theorem splitB_size (k : Nat) : ∀ (s p : ByteArray), p ∈ Lib.splitB spcB 0 k s → p.size ≤ s.size := by
  induction k with
  | zero => intro s p h; rw [Lib.splitB] at h; simp at h; rw [h]; exact Nat.le_refl _
  | succ k ih =>
    intro s p h
    rw [Lib.splitB] at h
    split at h
    · simp at h; rw [h]; exact Nat.le_refl _
    · rcases List.mem_cons.1 h with h | h
      · rw [h, ByteArray.size_extract]; omega
      · have := ih _ _ h
        rw [ByteArray.size_extract] at this
        omega
theorem parts_size (s : ByteArray) : ∀ p ∈ partsB s, p.size ≤ s.size := fun p h => splitB_size _ s p h
theorem cells_three (x y z : ByteArray) (N : Nat) : (Lib.cellsOf [x, y, z] N)[0]? = some (.string x) ∧ (Lib.cellsOf [x, y, z] N)[1]? = some (.string y) ∧ (Lib.cellsOf [x, y, z] N)[2]? = some (.string z) := by
  unfold Lib.cellsOf
  simp
end Go.Proofs.YtdbpeikijonjmaaDoor.M
namespace Go.Proofs.YtdbpeikijonjmaaDoor.Image
open Go.ChangeShapes Go.WideShapes Go.ChangeAt Go.RowKit
open Go.Proofs.YtdbpeikijonjmaaDoor.M
set_option linter.unusedVariables false

theorem wpl_loadI {w : World} {ops : Array Oper} {rest : List Oper} {o : Oper} {a : Act} {Q : Exit → Act → World → Prop} (p : Nat) (hw : Region.wanted o (yielded ops a.tmps) = true) (ho : o.op = .load 23 (.tmp p)) (b : Nat)
    (hx : a.eval (.tmp p) = .pointer (some ⟨b, 0, none⟩)) (c : Array Value) (fr : Nat × Nat) (hg : w.heap[b]? = some (.cells c 23 fr)) (hs : c.size = 3) (h : wpList Tryd.prog ops Q rest (a.put o.dst (.agg c)) w) : wpList Tryd.prog ops Q (o :: rest) a w :=
  wpList_step fun K hK => by
    simp only [hw, if_true]
    exact wp_load_row _ (.tmp p) ho b hx _ c fr _ hg Tryd.underlying23 rfl (by rw [info_img, hs]) (hK _ _ h)
/-- The walk's step where a whole image is stored into the block that a slot points to. -/
theorem wpl_storeI {w : World} {ops : Array Oper} {rest : List Oper} {o : Oper} {a : Act} {Q : Exit → Act → World → Prop} (p q : Nat) (hw : Region.wanted o (yielded ops a.tmps) = true) (ho : o.op = .store 23 (.tmp p) (.tmp q)) (b : Nat)
    (hx : a.eval (.tmp p) = .pointer (some ⟨b, 0, none⟩)) (c d : Array Value) (hv : a.eval (.tmp q) = .agg d) (hg : w.heap[b]? = some (.cells c 23)) (hs : c.size = 3) (hs' : d.size = 3) (h1 : d.all (·.oneCell') = true)
    (h : wpList Tryd.prog ops Q rest (a.put o.dst undef) (w.setRow b d)) : wpList Tryd.prog ops Q (o :: rest) a w :=
  wpList_step fun K hK => by
    simp only [hw, if_true]
    unfold Oper.wp execOp
    simp only [ho, hx, hv, Instr.storeAt, Instr.sureAddr, Sem.run_bind, Sem.run_pure, Result.andThen_ok, run_storeVar_row w b _ _ c d hg (by rw [info_img, hs']) (by rw [hs, hs']) h1]
    exact hK _ _ h
theorem results_img {fn : Func} {p u : Tmp} (h : fn.results = #[.cell p 23, .tmp u]) (tmps : Array Value) (w : World) (b : Nat) (c : Array Value) (v : Value) (hp : tmps.getD p undef = .pointer (some ⟨b, 0, none⟩)) (hu : tmps.getD u undef = v)
    (hg : w.heap[b]? = some (.cells c 23)) (hs : c.size = 3) : (results fn tmps).run Tryd.prog w = .ok (.tuple #[.agg c, v]) w := by
  rw [results_cell_tmp h, hp, hu]
  simp [asAddr, load_img hg hs, Result.andThen]

theorem three_size (a b c : Value) : #[a, b, c].size = 3 := rfl
theorem three_one (nm cd : ByteArray) (v : Int) : #[Value.string nm, Value.int .i64 v, Value.string cd].all (·.oneCell') = true := by
  rw [Array.all_eq_true_iff_forall_mem]
  intro u hu
  simp at hu
  rcases hu with rfl | rfl | rfl <;> rfl

set_option maxHeartbeats 8000000 in
theorem parse_any (s : ByteArray) (w : World) (hs : s.size ≤ 140737488351232) (hh : Has w) :
    Calls Tryd.prog 15 #[.string s] w fun e w' => e = .returned (.tuple #[.agg (parC s), errV 45 (parE s)]) ∧ Below w.heap.size w w' := by
  have HB0 := hide (below_new w (.cells noImg 23))
  have HG0 := hide (blk_new w (.cells noImg 23))
  have HH0 := hide (hh.below HB0.out)
  clear hh
  unfold noImg imgC at HB0 HG0 HH0
  go_enter Tryd.func15, Tryd.ntmps15
  go_wp2_with (fail)
  refine (Split.split_any s _ hs).mono ?_
  rintro e w1 ⟨rfl, hw1⟩
  have hb1 : Below _ _ w1 := hw1 ▸ below_new _ _
  have HP1 := hide (show w1.heap[w.heap.size + 1]? = some (.cells (Lib.cellsOf (partsB s) (min 4 (s.size + 1))) 9) from hw1 ▸ blk_two w _ _)
  have HB1 := hide (below_on HB0.out hb1)
  have HG1 := hide (blk_below HG0.out hb1)
  have HH1 := hide (HH0.out.below hb1)
  clear hb1 hw1 HB0 HG0 HH0
  generalize hN : min 4 (s.size + 1) = N at HP1
  have hN4 : N ≤ 4 := by omega
  by_cases h3 : (partsB s).length = 3
  · obtain ⟨x, y, z, hp⟩ := three_of h3
    have HO := hide (parO_three hp)
    rw [hp]
    rw [hp] at HP1
    obtain ⟨t0, t1, t2⟩ := cells_three x y z N
    have p10 : w1.cell? ⟨w.heap.size + 1, 0, none⟩ = some (.string x) := by rw [cell_of_row w1 _ _ _ _ _ HP1.out]; exact t0
    have p11 : w1.cell? ⟨w.heap.size + 1, 1, none⟩ = some (.string y) := by rw [cell_of_row w1 _ _ _ _ _ HP1.out]; exact t1
    have p12 : w1.cell? ⟨w.heap.size + 1, 2, none⟩ = some (.string z) := by rw [cell_of_row w1 _ _ _ _ _ HP1.out]; exact t2
    clear t0 t1 t2 h3
    have hsz := parts_size s
    rw [hp] at hsz
    have hx : x.size ≤ s.size := hsz x (by simp)
    have hy : y.size ≤ s.size := hsz y (by simp)
    have hz : z.size ≤ s.size := hsz z (by simp)
    clear hsz hp hN
    go_wp2_with (fail)
    refine (number_any y _ (by omega) HH1.out).mono ?_
    rintro e w2 ⟨rfl, hb2⟩
    have HB2 := hide (below_on HB1.out hb2)
    have HG2 := hide (blk_below HG1.out hb2)
    have HP2 := hide (blk_below HP1.out hb2)
    have HH2 := hide (HH1.out.below hb2)
    clear hb2 HB1 HG1 HP1 HH1 p10 p11 p12
    cases hy2 : numO y.data.toList with
    | none =>
      obtain ⟨n1, n2⟩ := num_none hy2
      rw [n1, n2]
      obtain ⟨p1, p2⟩ := par_none (s := s) (by rw [HO.out, hy2]; rfl)
      have P1 := hide p1
      have P2 := hide p2
      clear n1 n2 p1 p2 hy2
      rw [errV_ne (by decide)]
      obtain ⟨r0, r1, r2⟩ := img_cells HG2.out
      obtain ⟨g0, g1, g2⟩ := img_free HG2.out
      go_wp2
      rw [three_set HG2.out]
      refine bodyPost_ret (v := .tuple #[.agg noImg, .iface 45 (.int .i64 2)]) ?_ rfl ⟨?_, ?_⟩
      · exact results_img (p := 2) (u := 3) rfl _ _ w.heap.size _ _ rfl rfl (setRow_heap _ _ _ _ _ _ HG2.out) rfl
      · rw [P1.out, P2.out]; rfl
      · exact below_setRow HB2.out (by omega) _
    | some n =>
      obtain ⟨n1, n2⟩ := num_some hy2
      rw [n1, n2, errV_zero]
      obtain ⟨p1, p2⟩ := par_some (s := s) (a := x) (n := n) (c := z) (by rw [HO.out, hy2]; rfl)
      have P1 := hide p1
      have P2 := hide p2
      clear n1 n2 p1 p2 hy2
      obtain ⟨t0, t1, t2⟩ := cells_three x y z N
      have p20 : w2.cell? ⟨w.heap.size + 1, 0, none⟩ = some (.string x) := by rw [cell_of_row w2 _ _ _ _ _ HP2.out]; exact t0
      have p22 : w2.cell? ⟨w.heap.size + 1, 2, none⟩ = some (.string z) := by rw [cell_of_row w2 _ _ _ _ _ HP2.out]; exact t2
      clear t0 t1 t2
      have hne := World.new_ne w2 _ p20
      go_wp2_with (fail)
      go_region_held3 (fun w' => w'.cell? ⟨w.heap.size + 1, 0, none⟩ = some (.string x) ∧ w'.cell? ⟨w.heap.size + 1, 2, none⟩ = some (.string z)) (go_keep) (fail)
      have hwa : Below w2.heap.size w2 (w2.alloc (.cells (imgC x n z) 23)).drew := Below.drew (below_new _ _)
      have HM3 := hide (show (w2.alloc (.cells (imgC x n z) 23)).drew.heap[w2.heap.size]? = some (.cells (imgC x n z) 23) from blk_new _ _)
      have HB3 := hide (below_on HB2.out hwa)
      have HG3 := hide (blk_below HG2.out hwa)
      have HH3 := hide (HH2.out.below hwa)
      have hML : w.heap.size < w2.heap.size := blk_lt HG2.out
      clear hwa p20 p22 HB2 HG2 HP2 HH2
      unfold imgC at HM3 HB3 HG3 HH3
      go_wp2_with (fail)
      refine (check_any x z n _ (by omega) (by omega)).mono ?_
      rintro e w4 ⟨rfl, hb4⟩
      have HB4 := hide (below_on HB3.out hb4)
      have HG4 := hide (blk_below HG3.out hb4)
      have HM4 := hide (blk_below HM3.out hb4)
      have HH4 := hide (HH3.out.below hb4)
      clear hb4 HB3 HG3 HM3 HH3
      by_cases hE : imgE x n z = 0
      · have HE := hide hE
        have P3 := hide (show parC s = imgC x n z by rw [P2.out, if_pos hE])
        rw [hE, errV_zero]
        clear hE
        have CL := hide (fun (W : World) => clones_any x z n W (by omega) (by omega))
        unfold imgC at CL
        obtain ⟨m0, m1, m2⟩ := img_cells (nm := x) (v := n) (cd := z) HM4.out
        go_wp2_with (fail)
        refine (CL.out _).mono ?_
        rintro e w6 ⟨rfl, hb6⟩
        have HB6 := hide (below_on HB4.out hb6)
        have HG6 := hide (blk_below HG4.out hb6)
        clear hb6 HB4 HG4 HM4 HH4 CL m0 m1 m2
        obtain ⟨r0, r1, r2⟩ := img_cells (nm := { data := #[] }) (v := 0) (cd := { data := #[] }) HG6.out
        obtain ⟨g0, g1, g2⟩ := img_free HG6.out
        go_wp2
        rw [three_set HG6.out]
        refine bodyPost_ret (v := .tuple #[.agg (imgC x n z), .nilIface]) ?_ rfl ⟨?_, ?_⟩
        · exact results_img (p := 2) (u := 3) rfl _ _ w.heap.size _ _ rfl rfl (setRow_heap _ _ _ _ _ _ HG6.out) rfl
        · rw [P1.out, P3.out, HE.out]; rfl
        · exact below_setRow HB6.out (by omega) _
      · have P3 := hide (show parC s = noImg by rw [P2.out, if_neg hE])
        have HX := hide (errV_ne (T := 45) hE)
        rw [errV_ne hE]
        clear hE
        obtain ⟨r0, r1, r2⟩ := img_cells HG4.out
        obtain ⟨g0, g1, g2⟩ := img_free HG4.out
        go_wp2
        rw [three_set HG4.out]
        refine bodyPost_ret (v := .tuple #[.agg noImg, .iface 45 (.int .i64 (imgE x n z))]) ?_ rfl ⟨?_, ?_⟩
        · exact results_img (p := 2) (u := 3) rfl _ _ w.heap.size _ _ rfl rfl (setRow_heap _ _ _ _ _ _ HG4.out) rfl
        · rw [P1.out, P3.out, HX.out]
        · exact below_setRow HB4.out (by omega) _
  · obtain ⟨p1, p2⟩ := par_none (parO_len h3)
    have P1 := hide p1
    have P2 := hide p2
    clear p1 p2
    have h3z : ¬ ((partsB s).length : Int) = 3 := by omega
    generalize (partsB s).length = L at h3 h3z
    obtain ⟨r0, r1, r2⟩ := img_cells HG1.out
    obtain ⟨g0, g1, g2⟩ := img_free HG1.out
    go_wp2
    rw [three_set HG1.out]
    refine bodyPost_ret (v := .tuple #[.agg noImg, .iface 45 (.int .i64 2)]) ?_ rfl ⟨?_, ?_⟩
    · exact results_img (p := 2) (u := 3) rfl _ _ w.heap.size _ _ rfl rfl (setRow_heap _ _ _ _ _ _ HG1.out) rfl
    · rw [P1.out, P2.out]; rfl
    · exact below_setRow HB1.out (by omega) _
end Go.Proofs.YtdbpeikijonjmaaDoor.Image
