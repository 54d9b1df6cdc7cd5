/-
  What package slot's New, Put, Pick, Start, Good and At do to its object over this translation.
-/
import Derived.Test.YtojdaifnljghkabGreatDoorPack1
import Derived.Deep.RegionWith
namespace Go.Proofs.YtojdaifnljghkabGreatDoor.Slot
open Go.ChangeShapes Go.WideShapes Go.ChangeAt Go.RowKit
open Go.Proofs.YtojdaifnljghkabGreatDoor.M Go.Proofs.YtojdaifnljghkabGreatDoor.SlotRef
set_option linter.unusedVariables false
set_option linter.unusedSimpArgs false

/-- The object: a block of its own. -/
def PIs (W : World) (B g : Nat) (t : St) : Prop := W.heap[g]? = some (.cells (stC t) 150) ∧ B ≤ g
def Slt (W : World) (B : Nat) (p : Value) (S : Nat → Prop) (t : St) : Prop := ∃ g, p = .pointer (some ⟨g, 0, none⟩) ∧ S = (fun k => k = g) ∧ PIs W B g t ∧ OkT t ∧ szS t.x.s ∧ szS t.y.s
theorem PIs.only {W W' : World} {S : Nat → Prop} {B g : Nat} {t : St} (h : PIs W B g t) (ho : Only S W W') (hn : ¬ S g) : PIs W' B g t := ⟨ho.heap h.1 hn, h.2⟩
theorem PIs.below {W W' : World} {B g : Nat} {t : St} (h : PIs W B g t) (hb : Below W.heap.size W W') : PIs W' B g t := ⟨blk_below h.1 hb, h.2⟩
theorem sz_no : szS noSg := ⟨by show 0 ≤ _; omega, by show 0 ≤ _; omega⟩

theorem other_any (i : Bool) (w : World) : Calls Tryz.prog 91 #[.int .i64 (idx i)] w fun e w' => e = .returned (.int .i64 (idx (!i))) ∧ w' = w := by
  cases i
  all_goals
    simp only [idx]
    go_enter Tryz.func91, Tryz.ntmps91
    go_wp2
    go_ret
    exact ⟨rfl, rfl⟩

/-- On trial. -/
def triB (l : Sl) : Bool := l.full && !l.good && decide (0 < l.tries)
set_option maxHeartbeats 1000000 in
theorem trial_any (l : Sl) (w : World) : Calls Tryz.prog 90 #[slA l] w fun e w' => e = .returned (.bool (triB l)) ∧ Below w.heap.size w w' := by
  obtain ⟨⟨nm, v, cd, p, a⟩, f, n, g⟩ := l
  unfold slA
  have HB := hide (below_new w (.cells #[.string nm, .int .i64 v, .string cd, .int .i64 p, .int .i64 a, .bool f, .int .i64 n, .bool g] 106))
  by_cases hn : 0 < n
  · have E := hide (show triB ⟨⟨nm, v, cd, p, a⟩, f, n, g⟩ = (f && !g) by unfold triB; simp only [decide_eq_true hn, Bool.and_true])
    cases f <;> cases g
    all_goals
      go_enter Tryz.func90, Tryz.ntmps90
      go_wp2
      go_ret
      exact ⟨by rw [E.out]; rfl, HB.out⟩
  · have E := hide (show triB ⟨⟨nm, v, cd, p, a⟩, f, n, g⟩ = false by unfold triB; simp only [decide_eq_false hn, Bool.and_false])
    cases f <;> cases g
    all_goals
      go_enter Tryz.func90, Tryz.ntmps90
      go_wp2
      go_ret
      exact ⟨by rw [E.out]; rfl, HB.out⟩

section
variable {W w : World} {R g : Nat} {T : TypeId} {fr : Nat × Nat} {a0 a1 a2 a3 a4 a5 a6 a7 v v0 v1 v2 v3 v4 v5 v6 v7 : Value} {S : Nat → Prop} {o : Option Obj}
theorem he0 (h : W.heap[g]? = some (.cells #[a0, a1, a2, a3, a4, a5, a6, a7] T fr)) : (W.setCell ⟨g, 0, none⟩ v).heap[g]? = some (.cells #[v, a1, a2, a3, a4, a5, a6, a7] T fr) := (heap_set h).trans rfl
theorem he1 (h : W.heap[g]? = some (.cells #[a0, a1, a2, a3, a4, a5, a6, a7] T fr)) : (W.setCell ⟨g, 1, none⟩ v).heap[g]? = some (.cells #[a0, v, a2, a3, a4, a5, a6, a7] T fr) := (heap_set h).trans rfl
theorem he2 (h : W.heap[g]? = some (.cells #[a0, a1, a2, a3, a4, a5, a6, a7] T fr)) : (W.setCell ⟨g, 2, none⟩ v).heap[g]? = some (.cells #[a0, a1, v, a3, a4, a5, a6, a7] T fr) := (heap_set h).trans rfl
theorem he3 (h : W.heap[g]? = some (.cells #[a0, a1, a2, a3, a4, a5, a6, a7] T fr)) : (W.setCell ⟨g, 3, none⟩ v).heap[g]? = some (.cells #[a0, a1, a2, v, a4, a5, a6, a7] T fr) := (heap_set h).trans rfl
theorem he4 (h : W.heap[g]? = some (.cells #[a0, a1, a2, a3, a4, a5, a6, a7] T fr)) : (W.setCell ⟨g, 4, none⟩ v).heap[g]? = some (.cells #[a0, a1, a2, a3, v, a5, a6, a7] T fr) := (heap_set h).trans rfl
theorem he5 (h : W.heap[g]? = some (.cells #[a0, a1, a2, a3, a4, a5, a6, a7] T fr)) : (W.setCell ⟨g, 5, none⟩ v).heap[g]? = some (.cells #[a0, a1, a2, a3, a4, v, a6, a7] T fr) := (heap_set h).trans rfl
theorem he6 (h : W.heap[g]? = some (.cells #[a0, a1, a2, a3, a4, a5, a6, a7] T fr)) : (W.setCell ⟨g, 6, none⟩ v).heap[g]? = some (.cells #[a0, a1, a2, a3, a4, a5, v, a7] T fr) := (heap_set h).trans rfl
theorem he7 (h : W.heap[g]? = some (.cells #[a0, a1, a2, a3, a4, a5, a6, a7] T fr)) : (W.setCell ⟨g, 7, none⟩ v).heap[g]? = some (.cells #[a0, a1, a2, a3, a4, a5, a6, v] T fr) := (heap_set h).trans rfl
theorem r8 (h : W.heap[R]? = some (.cells #[a0, a1, a2, a3, a4, a5, a6, a7] T fr)) : ((((((((W.setCell ⟨R, 0, none⟩ v0).setCell ⟨R, 1, none⟩ v1).setCell ⟨R, 2, none⟩ v2).setCell ⟨R, 3, none⟩ v3).setCell ⟨R, 4, none⟩ v4).setCell ⟨R, 5, none⟩ v5).setCell ⟨R, 6, none⟩ v6).setCell ⟨R, 7, none⟩ v7).heap[R]? = some (.cells #[v0, v1, v2, v3, v4, v5, v6, v7] T fr) :=
  he7 (he6 (he5 (he4 (he3 (he2 (he1 (he0 h)))))))
theorem r85 (h : W.heap[R]? = some (.cells #[a0, a1, a2, a3, a4, a5, a6, a7] T fr)) : (((((W.setCell ⟨R, 0, none⟩ v0).setCell ⟨R, 1, none⟩ v1).setCell ⟨R, 2, none⟩ v2).setCell ⟨R, 3, none⟩ v3).setCell ⟨R, 4, none⟩ v4).heap[R]? = some (.cells #[v0, v1, v2, v3, v4, a5, a6, a7] T fr) :=
  he4 (he3 (he2 (he1 (he0 h))))
theorem other1 {i : Nat} (hn : g ≠ R) (h : W.heap[g]? = o) : (W.setCell ⟨R, i, none⟩ v).heap[g]? = o := by
  rw [Below.heap_setCell _ _ _ _ hn]
  exact h
theorem cellsE (h : W.heap[g]? = some (.cells #[a0, a1, a2, a3, a4, a5, a6, a7] T fr)) :
    W.cell? ⟨g, 0, none⟩ = some a0 ∧ W.cell? ⟨g, 1, none⟩ = some a1 ∧ W.cell? ⟨g, 2, none⟩ = some a2 ∧ W.cell? ⟨g, 3, none⟩ = some a3 ∧ W.cell? ⟨g, 4, none⟩ = some a4 ∧ W.cell? ⟨g, 5, none⟩ = some a5 ∧ W.cell? ⟨g, 6, none⟩ = some a6 ∧ W.cell? ⟨g, 7, none⟩ = some a7 := by
  refine ⟨?_, ?_, ?_, ?_, ?_, ?_, ?_, ?_⟩ <;> rw [cell_of_row W g _ _ T fr h] <;> rfl
end
theorem only_below {w W : World} (h : Only (fun _ => False) w W) : Below w.heap.size w W := h.below (Nat.le_refl _) (fun _ hf => hf.elim)
theorem other0 (w : World) : Calls Tryz.prog 91 #[.int .i64 0] w fun e w' => e = .returned (.int .i64 1) ∧ w' = w := other_any false w
theorem other9 (w : World) : Calls Tryz.prog 91 #[.int .i64 1] w fun e w' => e = .returned (.int .i64 0) ∧ w' = w := other_any true w

set_option maxHeartbeats 1000000 in
theorem clone_any (s : Sg) (w : World) (hs : szS s) : Calls Tryz.prog 88 #[sgA s] w fun e w' => e = .returned (sgA s) ∧ Below w.heap.size w w' := by
  obtain ⟨nm, v, cd, p, a⟩ := s
  have CL := hide (fun W => Image.clones_any nm cd v W hs.1 hs.2)
  unfold imgC at CL
  unfold sgA
  have hbA := below_on (below_new w (.cells #[.string nm, .int .i64 v, .string cd, .int .i64 p, .int .i64 a] 27)) (below_new _ (.cells #[.string { data := #[] }, .int .i64 0, .string { data := #[] }, .int .i64 0, .int .i64 0] 27))
  have hP := blk_keep (blk_new w (.cells #[.string nm, .int .i64 v, .string cd, .int .i64 p, .int .i64 a] 27)) (.cells #[.string { data := #[] }, .int .i64 0, .string { data := #[] }, .int .i64 0, .int .i64 0] 27)
  have hR := blk2 w (.cells #[.string nm, .int .i64 v, .string cd, .int .i64 p, .int .i64 a] 27) (.cells #[.string { data := #[] }, .int .i64 0, .string { data := #[] }, .int .i64 0, .int .i64 0] 27)
  obtain ⟨p0, p1, p2, p3, p4⟩ := cellsS hP
  have HB := hide hbA
  have HP := hide hP
  have HR := hide hR
  clear hbA hP hR hs
  go_enter Tryz.func88, Tryz.ntmps88
  go_wp2_with (fail)
  refine (CL.out _).mono ?_
  rintro e w1 ⟨rfl, hb1⟩
  have HB1 := hide (below_on HB.out hb1)
  have HP1 := hide (blk_below HP.out hb1)
  have HR1 := hide (blk_below HR.out hb1)
  clear hb1 HB HP HR p0 p1 p2 p3 p4 CL
  obtain ⟨p0, p1, p2, p3, p4⟩ := cellsS HP1.out
  have q0 := at_free HP1.out 0
  have q1 := at_free HP1.out 1
  have q2 := at_free HP1.out 2
  have hlt := blk_lt HR1.out
  go_upto_region 2 with (fail)
  have HP2 := hide ((heap_set (i := 2) (v := .string cd) (heap_set (i := 1) (v := .int .i64 v) (heap_set (i := 0) (v := .string nm) HP1.out))).trans rfl)
  have HR2 := hide (other1 (i := 2) (v := .string cd) (show w.heap.size + 1 ≠ w.heap.size by omega) (other1 (i := 1) (v := .int .i64 v) (show w.heap.size + 1 ≠ w.heap.size by omega) (other1 (i := 0) (v := .string nm) (show w.heap.size + 1 ≠ w.heap.size by omega) HR1.out)))
  have HO2 := hide (new1 (i0 := 2) (v0 := .string cd) (Nat.le_refl _) (new1 (i0 := 1) (v0 := .int .i64 v) (Nat.le_refl _) (new1 (i0 := 0) (v0 := .string nm) (Nat.le_refl _) (Only.of_below (S := fun _ => False) HB1.out))))
  clear p0 p1 p2 p3 p4 q0 q1 q2 HP1 HR1 HB1
  generalize ((w1.setCell ⟨w.heap.size, 0, none⟩ (.string nm)).setCell ⟨w.heap.size, 1, none⟩ (.int .i64 v)).setCell ⟨w.heap.size, 2, none⟩ (.string cd) = w2 at *
  obtain ⟨p0, p1, p2, p3, p4⟩ := cellsS HP2.out
  obtain ⟨r0, r1, r2, r3, r4⟩ := cellsS HR2.out
  have q0 := at_free HR2.out 0
  have q1 := at_free HR2.out 1
  have q2 := at_free HR2.out 2
  have q3 := at_free HR2.out 3
  have q4 := at_free HR2.out 4
  go_wp2
  refine bodyPost_ret (v := .agg #[.string nm, .int .i64 v, .string cd, .int .i64 p, .int .i64 a]) ?_ rfl ⟨rfl, ?_⟩
  · exact results_sg (p := 2) rfl _ _ (w.heap.size + 1) _ rfl (r5 HR2.out) rfl
  · exact only_below (new5 (by omega) HO2.out)

set_option maxHeartbeats 2000000 in
theorem isgood_any (g : Nat) (t : St) (w : World) (B : Nat) (h : PIs w B g t) :
    Calls Tryz.prog 89 #[.pointer (some ⟨g, 0, none⟩)] w fun e w' => e = .returned (.int .i64 (idx (safeT t))) ∧ Below w.heap.size w w' := by
  obtain ⟨x, y, r⟩ := t
  obtain ⟨xs, xf, xt, xg⟩ := x
  obtain ⟨ys, yf, yt, yg⟩ := y
  have c7 := at_cell h.1 7
  have c15 := at_cell h.1 15
  have c16 := at_cell h.1 16
  simp [stC] at c7 c15 c16
  clear h
  cases r
  · cases xg <;> cases yg <;> simp only [idx] at c16
    all_goals
      go_enter Tryz.func89, Tryz.ntmps89
      go_wp2_with (fail)
      go_quiet (fail)
      go_wp2_with (go_at_call 91; refine (other0 _).mono ?_; rintro e w5 ⟨rfl, rfl⟩)
      go_ret
      exact ⟨rfl, quiet_below _ _⟩
  · cases xg <;> cases yg <;> simp only [idx] at c16
    all_goals
      go_enter Tryz.func89, Tryz.ntmps89
      go_wp2_with (fail)
      go_quiet (fail)
      go_wp2_with (go_at_call 91; refine (other9 _).mono ?_; rintro e w5 ⟨rfl, rfl⟩)
      go_ret
      exact ⟨rfl, quiet_below _ _⟩

/-- While Pick looks at it. -/
def KI (w : World) (B g : Nat) (t : St) (W : World) : Prop := PIs W B g t ∧ Below w.heap.size w W
section
variable {w W W' : World} {B g : Nat} {t : St}
theorem ki_S (h : KI w B g t W) :
    (W.cell? ⟨g, 0, none⟩ = some (.string t.x.s.nm) ∧ W.cell? ⟨g, 1, none⟩ = some (.int .i64 t.x.s.v) ∧ W.cell? ⟨g, 2, none⟩ = some (.string t.x.s.cd) ∧ W.cell? ⟨g, 3, none⟩ = some (.int .i64 t.x.s.p) ∧ W.cell? ⟨g, 4, none⟩ = some (.int .i64 t.x.s.a) ∧ W.cell? ⟨g, 5, none⟩ = some (.bool t.x.full) ∧ W.cell? ⟨g, 6, none⟩ = some (.int .i64 t.x.tries) ∧ W.cell? ⟨g, 7, none⟩ = some (.bool t.x.good))
    ∧ (W.cell? ⟨g, 8, none⟩ = some (.string t.y.s.nm) ∧ W.cell? ⟨g, 9, none⟩ = some (.int .i64 t.y.s.v) ∧ W.cell? ⟨g, 10, none⟩ = some (.string t.y.s.cd) ∧ W.cell? ⟨g, 11, none⟩ = some (.int .i64 t.y.s.p) ∧ W.cell? ⟨g, 12, none⟩ = some (.int .i64 t.y.s.a) ∧ W.cell? ⟨g, 13, none⟩ = some (.bool t.y.full) ∧ W.cell? ⟨g, 14, none⟩ = some (.int .i64 t.y.tries) ∧ W.cell? ⟨g, 15, none⟩ = some (.bool t.y.good))
    ∧ KI w B g t W := ⟨(cells8 h.1.1).1, (cells8 h.1.1).2.1, h⟩
theorem ki_drew (h : KI w B g t W) : KI w B g t W.drew := ⟨h.1, Below.drew h.2⟩
theorem ki_below (h : KI w B g t W) (hb : Below W.heap.size W W') : KI w B g t W' := ⟨h.1.below hb, below_on h.2 hb⟩
end
theorem pick_is (t : St) : pickT t = if triB (t.at (!safeT t)) = true then !safeT t else safeT t := by
  unfold pickT triB
  generalize (t.at (!safeT t)).full = f
  generalize (t.at (!safeT t)).good = g
  generalize (t.at (!safeT t)).tries = n
  cases f <;> cases g <;> simp
set_option maxHeartbeats 4000000 in
theorem pick_any (g : Nat) (t : St) (w : World) (B : Nat) (h : PIs w B g t) :
    Calls Tryz.prog 49 #[.pointer (some ⟨g, 0, none⟩)] w fun e w' => e = .returned (.int .i64 (idx (pickT t))) ∧ Below w.heap.size w w' := by
  have SF := hide (isgood_any g t w B h)
  have HG := hide h
  have HP := hide (pick_is t)
  clear h
  generalize safeT t = q at *
  cases q
  · simp only [St.at, Bool.not_false, Bool.not_true] at HP
    have TR := hide (fun W => trial_any t.y W)
    unfold slA at TR
    generalize triB t.y = tb at *
    cases tb
    all_goals
      simp only [idx] at SF
      go_enter Tryz.func49, Tryz.ntmps49
      go_wp2_with (fail)
      refine SF.out.mono ?_
      rintro e w1 ⟨rfl, hb1⟩
      have hK : KI w B g t w1 := ⟨HG.out.below hb1, hb1⟩
      clear hb1 SF
      obtain ⟨⟨x0, x1, x2, x3, x4, x5, x6, x7⟩, ⟨y0, y1, y2, y3, y4, y5, y6, y7⟩, _⟩ := ki_S hK
      go_wp2_with (fail)
      go_region_held3 (fun W => (W.cell? ⟨g, 0, none⟩ = some (.string t.x.s.nm) ∧ W.cell? ⟨g, 1, none⟩ = some (.int .i64 t.x.s.v) ∧ W.cell? ⟨g, 2, none⟩ = some (.string t.x.s.cd) ∧ W.cell? ⟨g, 3, none⟩ = some (.int .i64 t.x.s.p) ∧ W.cell? ⟨g, 4, none⟩ = some (.int .i64 t.x.s.a) ∧ W.cell? ⟨g, 5, none⟩ = some (.bool t.x.full) ∧ W.cell? ⟨g, 6, none⟩ = some (.int .i64 t.x.tries) ∧ W.cell? ⟨g, 7, none⟩ = some (.bool t.x.good))
        ∧ (W.cell? ⟨g, 8, none⟩ = some (.string t.y.s.nm) ∧ W.cell? ⟨g, 9, none⟩ = some (.int .i64 t.y.s.v) ∧ W.cell? ⟨g, 10, none⟩ = some (.string t.y.s.cd) ∧ W.cell? ⟨g, 11, none⟩ = some (.int .i64 t.y.s.p) ∧ W.cell? ⟨g, 12, none⟩ = some (.int .i64 t.y.s.a) ∧ W.cell? ⟨g, 13, none⟩ = some (.bool t.y.full) ∧ W.cell? ⟨g, 14, none⟩ = some (.int .i64 t.y.tries) ∧ W.cell? ⟨g, 15, none⟩ = some (.bool t.y.good))
        ∧ KI w B g t W)
        (exact ki_S (by repeat (first | assumption | apply ki_drew)))
        (first | (go_at_call 91; refine (other0 _).mono ?_; rintro e w5 ⟨rfl, h5⟩; subst h5) | (go_at_call 90; refine (TR.out _).mono ?_; rintro e w5 ⟨rfl, hb5⟩; have hK5 : KI w B g t w5 := ki_below (by repeat (first | assumption | apply ki_drew)) hb5; clear hb5; obtain ⟨⟨x50, x51, x52, x53, x54, x55, x56, x57⟩, ⟨y50, y51, y52, y53, y54, y55, y56, y57⟩, _⟩ := ki_S hK5))
      all_goals
        go_wp2_with (go_at_call 91; refine (other0 _).mono ?_; rintro e w6 ⟨rfl, rfl⟩)
        go_ret
        exact ⟨by rw [HP.out]; rfl, (show KI w B g t _ by repeat (first | assumption | apply ki_drew)).2⟩
  · simp only [St.at, Bool.not_false, Bool.not_true] at HP
    have TR := hide (fun W => trial_any t.x W)
    unfold slA at TR
    generalize triB t.x = tb at *
    cases tb
    all_goals
      simp only [idx] at SF
      go_enter Tryz.func49, Tryz.ntmps49
      go_wp2_with (fail)
      refine SF.out.mono ?_
      rintro e w1 ⟨rfl, hb1⟩
      have hK : KI w B g t w1 := ⟨HG.out.below hb1, hb1⟩
      clear hb1 SF
      obtain ⟨⟨x0, x1, x2, x3, x4, x5, x6, x7⟩, ⟨y0, y1, y2, y3, y4, y5, y6, y7⟩, _⟩ := ki_S hK
      go_wp2_with (fail)
      go_region_held3 (fun W => (W.cell? ⟨g, 0, none⟩ = some (.string t.x.s.nm) ∧ W.cell? ⟨g, 1, none⟩ = some (.int .i64 t.x.s.v) ∧ W.cell? ⟨g, 2, none⟩ = some (.string t.x.s.cd) ∧ W.cell? ⟨g, 3, none⟩ = some (.int .i64 t.x.s.p) ∧ W.cell? ⟨g, 4, none⟩ = some (.int .i64 t.x.s.a) ∧ W.cell? ⟨g, 5, none⟩ = some (.bool t.x.full) ∧ W.cell? ⟨g, 6, none⟩ = some (.int .i64 t.x.tries) ∧ W.cell? ⟨g, 7, none⟩ = some (.bool t.x.good))
        ∧ (W.cell? ⟨g, 8, none⟩ = some (.string t.y.s.nm) ∧ W.cell? ⟨g, 9, none⟩ = some (.int .i64 t.y.s.v) ∧ W.cell? ⟨g, 10, none⟩ = some (.string t.y.s.cd) ∧ W.cell? ⟨g, 11, none⟩ = some (.int .i64 t.y.s.p) ∧ W.cell? ⟨g, 12, none⟩ = some (.int .i64 t.y.s.a) ∧ W.cell? ⟨g, 13, none⟩ = some (.bool t.y.full) ∧ W.cell? ⟨g, 14, none⟩ = some (.int .i64 t.y.tries) ∧ W.cell? ⟨g, 15, none⟩ = some (.bool t.y.good))
        ∧ KI w B g t W)
        (exact ki_S (by repeat (first | assumption | apply ki_drew)))
        (first | (go_at_call 91; refine (other9 _).mono ?_; rintro e w5 ⟨rfl, h5⟩; subst h5) | (go_at_call 90; refine (TR.out _).mono ?_; rintro e w5 ⟨rfl, hb5⟩; have hK5 : KI w B g t w5 := ki_below (by repeat (first | assumption | apply ki_drew)) hb5; clear hb5; obtain ⟨⟨x50, x51, x52, x53, x54, x55, x56, x57⟩, ⟨y50, y51, y52, y53, y54, y55, y56, y57⟩, _⟩ := ki_S hK5))
      all_goals
        go_wp2_with (go_at_call 91; refine (other9 _).mono ?_; rintro e w6 ⟨rfl, rfl⟩)
        go_ret
        exact ⟨by rw [HP.out]; rfl, (show KI w B g t _ by repeat (first | assumption | apply ki_drew)).2⟩
/-- As it is asked. -/
theorem pickLaw : PickLaw Slt := by
  rintro p S t w B ⟨g, rfl, rfl, h, _⟩
  exact pick_any g t w B h

/-- New, where the image is wrong. -/
theorem new_no (s : Sg) (w : World) (hs : szS s) (hE : ¬ sgE s = 0) : Calls Tryz.prog 46 #[sgA s] w fun e w' => e = .returned (.tuple #[.pointer none, errV 96 (sgE s)]) ∧ Below w.heap.size w w' := by
  obtain ⟨nm, v, cd, p, a⟩ := s
  unfold sgE at hE ⊢
  simp only [] at hE
  rw [Image.errV_ne hE]
  have IM := hide (fun W => Image.check_any nm cd v W hs.1 hs.2)
  rw [Image.errV_ne hE] at IM
  unfold imgC at IM
  unfold sgA
  have HB := hide (below_new w (.cells #[.string nm, .int .i64 v, .string cd, .int .i64 p, .int .i64 a] 27))
  clear hE hs
  generalize imgE nm v cd = ie at *
  go_enter Tryz.func46, Tryz.ntmps46
  go_wp2_with (fail)
  refine (IM.out _).mono ?_
  rintro e w1 ⟨rfl, hb1⟩
  have HB1 := hide (below_on HB.out hb1)
  clear hb1 HB IM
  go_wp2
  go_ret2
  exact ⟨rfl, HB1.out⟩
set_option maxHeartbeats 1000000 in
theorem new_ok (s : Sg) (w : World) (B : Nat) (hs : szS s) (hE : sgE s = 0) (hB : B ≤ w.heap.size) : Calls Tryz.prog 46 #[sgA s] w fun e w' => ∃ p S, e = .returned (.tuple #[p, .nilIface]) ∧ Slt w' B p S (newT s) ∧ (∀ b, S b → w.heap.size ≤ b) ∧ Below w.heap.size w w' := by
  have HK := hide (ok_new s)
  obtain ⟨nm, v, cd, p, a⟩ := s
  have HS := hide hs
  unfold sgE at hE
  simp only [] at hE
  have IM := hide (fun W => Image.check_any nm cd v W hs.1 hs.2)
  have CL := hide (fun W => clone_any ⟨nm, v, cd, p, a⟩ W hs)
  rw [hE, errV_zero] at IM
  unfold imgC at IM
  unfold sgA at CL ⊢
  simp only [] at CL
  have HB := hide (below_new w (.cells #[.string nm, .int .i64 v, .string cd, .int .i64 p, .int .i64 a] 27))
  have HP := hide (blk_new w (.cells #[.string nm, .int .i64 v, .string cd, .int .i64 p, .int .i64 a] 27))
  have HBB := hide hB
  clear hE hs hB
  go_enter Tryz.func46, Tryz.ntmps46
  go_wp2_with (fail)
  refine (IM.out _).mono ?_
  rintro e w1 ⟨rfl, hb1⟩
  have HB1 := hide (below_on HB.out hb1)
  have HP1 := hide (blk_below HP.out hb1)
  clear hb1 HB HP IM
  obtain ⟨p0, p1, p2, p3, p4⟩ := cellsS HP1.out
  go_wp2_with (fail)
  refine (CL.out _).mono ?_
  rintro e w2 ⟨rfl, hb2⟩
  have HB2 := hide (below_on HB1.out hb2)
  clear hb2 HB1 HP1 CL p0 p1 p2 p3 p4
  go_wp2
  go_ret2
  have hle := HB2.out.size
  refine ⟨_, fun k => k = w2.heap.size, rfl, ⟨w2.heap.size, rfl, rfl, ⟨?_, ?_⟩, HK.out, HS.out, sz_no⟩, ?_, ?_⟩
  · exact blk_new w2 _
  · have := HBB.out
    omega
  · rintro b rfl
    exact hle
  · exact below_on HB2.out (below_new _ _)
theorem core : Core Slt where
  has := by
    rintro W B p S t ⟨g, rfl, rfl, h, _⟩ b rfl
    exact ⟨h.2, blk_lt h.1⟩
  only := by
    rintro W W' B p S T t ⟨g, rfl, rfl, h, h2⟩ ho hn
    exact ⟨g, rfl, rfl, h.only ho (hn g rfl), h2⟩
  ok := by
    rintro W B p S t ⟨g, rfl, rfl, h, h2, _⟩
    exact h2
  newNo := new_no
  new := new_ok

set_option maxHeartbeats 2000000 in
theorem start_lo (g : Nat) (tx ty : Sl) (r : Bool) (w : World) (B : Nat) (h : PIs w B g ⟨tx, ty, r⟩) (hq : pickT ⟨tx, ty, r⟩ = false) (b0 : 0 ≤ tx.tries) (b1 : tx.tries ≤ 3) (hz : szS tx.s) :
    Calls Tryz.prog 51 #[.pointer (some ⟨g, 0, none⟩)] w fun e w' => e = .returned (sgA tx.s) ∧ PIs w' B g ⟨lessL tx, ty, false⟩ ∧ Only (fun k => k = g) w w' := by
  have hbA := below_new w (.cells #[.string { data := #[] }, .int .i64 0, .string { data := #[] }, .int .i64 0, .int .i64 0] 27)
  have PK := hide (pick_any g ⟨tx, ty, r⟩ _ B (h.below hbA))
  have HR := hide (blk_new w (.cells #[.string { data := #[] }, .int .i64 0, .string { data := #[] }, .int .i64 0, .int .i64 0] 27))
  have CL := hide (fun W => clone_any tx.s W hz)
  unfold sgA at CL
  have HB := hide hbA
  have HG := hide (h.below hbA)
  have hgl := blk_lt h.1
  have hgR : g ≠ w.heap.size := by omega
  rw [hq] at PK
  simp only [idx] at PK
  clear h hbA hq hz
  go_enter Tryz.func51, Tryz.ntmps51
  go_wp2_with (fail)
  refine PK.out.mono ?_
  rintro e w1 ⟨rfl, hb1⟩
  have HG1 := hide (HG.out.below hb1)
  have HR1 := hide (blk_below HR.out hb1)
  have HO1 := hide (Only.of_below (S := fun k => k = g) (below_on HB.out hb1))
  clear hb1 HG HR HB PK
  obtain ⟨_, _, z⟩ := cells8 HG1.out.1
  have f16 := at_free HG1.out.1 16
  go_upto_region 2 with (fail)
  have HG2 : Hid (PIs (w1.setCell ⟨g, 16, none⟩ (.int .i64 0)) B g ⟨tx, ty, false⟩) := ⟨hs16 HG1.out.1, HG1.out.2⟩
  have HR2 := hide ((Below.heap_setCell w1 ⟨g, 16, none⟩ (.int .i64 0) w.heap.size (fun e => hgR e.symm)).trans HR1.out)
  have HO2 := hide (HO1.out.setCell (p := ⟨g, 16, none⟩) rfl (.int .i64 0))
  clear z f16 HG1 HR1 HO1
  generalize w1.setCell ⟨g, 16, none⟩ (.int .i64 0) = w2 at *
  obtain ⟨_, _, z⟩ := cells8 HG2.out.1
  simp only [idx] at z
  go_quiet (fail)
  have HG3 := hide (HG2.out.below (quiet_below w2 nq))
  have HO3 := hide (HO2.out.after (quiet_below w2 nq))
  have HR3 := hide (blk_below HR2.out (quiet_below w2 nq))
  clear z HG2 HO2 HR2
  generalize w2.drewN nq = w3 at *
  obtain ⟨⟨x0, x1, x2, x3, x4, x5, x6, x7⟩, ⟨y0, y1, y2, y3, y4, y5, y6, y7⟩, _⟩ := cells8 HG3.out.1
  have f6 := at_free HG3.out.1 6
  cases hg : tx.good with
  | true =>
    rw [hg] at x7
    have HL := hide (show lessL tx = tx by unfold lessL; rw [if_pos hg])
    clear hg
    go_wp2_with (fail)
    refine (CL.out _).mono ?_
    rintro e w5 ⟨rfl, hb5⟩
    have HG5 := hide (HG3.out.below hb5)
    have HO5 := hide (HO3.out.after hb5)
    have HR5 := hide (blk_below HR3.out hb5)
    clear hb5 x0 x1 x2 x3 x4 x5 x6 x7 y0 y1 y2 y3 y4 y5 y6 y7 f6
    obtain ⟨p0, p1, p2, p3, p4⟩ := cellsS HR5.out
    have q0 := at_free HR5.out 0
    have q1 := at_free HR5.out 1
    have q2 := at_free HR5.out 2
    have q3 := at_free HR5.out 3
    have q4 := at_free HR5.out 4
    go_wp2
    refine bodyPost_ret (v := sgA tx.s) ?_ rfl ⟨rfl, ⟨?_, HG5.out.2⟩, ?_⟩
    · exact results_sg (p := 2) rfl _ _ w.heap.size _ rfl (r5 HR5.out) rfl
    · rw [HL.out]
      exact other5 hgR HG5.out.1
    · exact new5 (Nat.le_refl _) HO5.out
  | false =>
    rw [hg] at x7
    have HL := hide (show lessL tx = { tx with tries := tx.tries - 1 } by unfold lessL; rw [if_neg (by rw [hg]; decide)])
    have HX : Hid (∀ z, z = tx.tries - 1 → PIs (w3.setCell ⟨g, 6, none⟩ (.int .i64 z)) B g ⟨lessL tx, ty, false⟩ ∧ Only (fun k => k = g) w (w3.setCell ⟨g, 6, none⟩ (.int .i64 z)) ∧ (w3.setCell ⟨g, 6, none⟩ (.int .i64 z)).heap[w.heap.size]? = some (.cells #[.string { data := #[] }, .int .i64 0, .string { data := #[] }, .int .i64 0, .int .i64 0] 27)) := by
      rintro z rfl
      refine ⟨⟨?_, HG3.out.2⟩, ?_, ?_⟩
      · rw [HL.out]
        exact hs6 HG3.out.1
      · exact HO3.out.setCell (p := ⟨g, 6, none⟩) rfl _
      · exact (Below.heap_setCell _ ⟨g, 6, none⟩ _ w.heap.size (fun e => hgR e.symm)).trans HR3.out
    clear hg
    go_wp2_with (fail)
    refine (CL.out _).mono ?_
    rintro e w5 ⟨rfl, hb5⟩
    have HX5 := hide (HX.out _ rfl)
    have HG5 := hide (HX5.out.1.below hb5)
    have HO5 := hide (HX5.out.2.1.after hb5)
    have HR5 := hide (blk_below HX5.out.2.2 hb5)
    clear hb5 x0 x1 x2 x3 x4 x5 x6 x7 y0 y1 y2 y3 y4 y5 y6 y7 f6 HX5
    obtain ⟨p0, p1, p2, p3, p4⟩ := cellsS HR5.out
    have q0 := at_free HR5.out 0
    have q1 := at_free HR5.out 1
    have q2 := at_free HR5.out 2
    have q3 := at_free HR5.out 3
    have q4 := at_free HR5.out 4
    go_wp2
    refine bodyPost_ret (v := sgA tx.s) ?_ rfl ⟨rfl, ⟨?_, HG5.out.2⟩, ?_⟩
    · exact results_sg (p := 2) rfl _ _ w.heap.size _ rfl (r5 HR5.out) rfl
    · exact other5 hgR HG5.out.1
    · exact new5 (Nat.le_refl _) HO5.out

set_option maxHeartbeats 2000000 in
theorem start_hi (g : Nat) (tx ty : Sl) (r : Bool) (w : World) (B : Nat) (h : PIs w B g ⟨tx, ty, r⟩) (hq : pickT ⟨tx, ty, r⟩ = true) (b0 : 0 ≤ ty.tries) (b1 : ty.tries ≤ 3) (hz : szS ty.s) :
    Calls Tryz.prog 51 #[.pointer (some ⟨g, 0, none⟩)] w fun e w' => e = .returned (sgA ty.s) ∧ PIs w' B g ⟨tx, lessL ty, true⟩ ∧ Only (fun k => k = g) w w' := by
  have hbA := below_new w (.cells #[.string { data := #[] }, .int .i64 0, .string { data := #[] }, .int .i64 0, .int .i64 0] 27)
  have PK := hide (pick_any g ⟨tx, ty, r⟩ _ B (h.below hbA))
  have HR := hide (blk_new w (.cells #[.string { data := #[] }, .int .i64 0, .string { data := #[] }, .int .i64 0, .int .i64 0] 27))
  have CL := hide (fun W => clone_any ty.s W hz)
  unfold sgA at CL
  have HB := hide hbA
  have HG := hide (h.below hbA)
  have hgl := blk_lt h.1
  have hgR : g ≠ w.heap.size := by omega
  rw [hq] at PK
  simp only [idx] at PK
  clear h hbA hq hz
  go_enter Tryz.func51, Tryz.ntmps51
  go_wp2_with (fail)
  refine PK.out.mono ?_
  rintro e w1 ⟨rfl, hb1⟩
  have HG1 := hide (HG.out.below hb1)
  have HR1 := hide (blk_below HR.out hb1)
  have HO1 := hide (Only.of_below (S := fun k => k = g) (below_on HB.out hb1))
  clear hb1 HG HR HB PK
  obtain ⟨_, _, z⟩ := cells8 HG1.out.1
  have f16 := at_free HG1.out.1 16
  go_upto_region 2 with (fail)
  have HG2 : Hid (PIs (w1.setCell ⟨g, 16, none⟩ (.int .i64 1)) B g ⟨tx, ty, true⟩) := ⟨hs16 HG1.out.1, HG1.out.2⟩
  have HR2 := hide ((Below.heap_setCell w1 ⟨g, 16, none⟩ (.int .i64 1) w.heap.size (fun e => hgR e.symm)).trans HR1.out)
  have HO2 := hide (HO1.out.setCell (p := ⟨g, 16, none⟩) rfl (.int .i64 1))
  clear z f16 HG1 HR1 HO1
  generalize w1.setCell ⟨g, 16, none⟩ (.int .i64 1) = w2 at *
  obtain ⟨_, _, z⟩ := cells8 HG2.out.1
  simp only [idx] at z
  go_quiet (fail)
  have HG3 := hide (HG2.out.below (quiet_below w2 nq))
  have HO3 := hide (HO2.out.after (quiet_below w2 nq))
  have HR3 := hide (blk_below HR2.out (quiet_below w2 nq))
  clear z HG2 HO2 HR2
  generalize w2.drewN nq = w3 at *
  obtain ⟨⟨x0, x1, x2, x3, x4, x5, x6, x7⟩, ⟨y0, y1, y2, y3, y4, y5, y6, y7⟩, _⟩ := cells8 HG3.out.1
  have f6 := at_free HG3.out.1 14
  cases hg : ty.good with
  | true =>
    rw [hg] at y7
    have HL := hide (show lessL ty = ty by unfold lessL; rw [if_pos hg])
    clear hg
    go_wp2_with (fail)
    refine (CL.out _).mono ?_
    rintro e w5 ⟨rfl, hb5⟩
    have HG5 := hide (HG3.out.below hb5)
    have HO5 := hide (HO3.out.after hb5)
    have HR5 := hide (blk_below HR3.out hb5)
    clear hb5 x0 x1 x2 x3 x4 x5 x6 x7 y0 y1 y2 y3 y4 y5 y6 y7 f6
    obtain ⟨p0, p1, p2, p3, p4⟩ := cellsS HR5.out
    have q0 := at_free HR5.out 0
    have q1 := at_free HR5.out 1
    have q2 := at_free HR5.out 2
    have q3 := at_free HR5.out 3
    have q4 := at_free HR5.out 4
    go_wp2
    refine bodyPost_ret (v := sgA ty.s) ?_ rfl ⟨rfl, ⟨?_, HG5.out.2⟩, ?_⟩
    · exact results_sg (p := 2) rfl _ _ w.heap.size _ rfl (r5 HR5.out) rfl
    · rw [HL.out]
      exact other5 hgR HG5.out.1
    · exact new5 (Nat.le_refl _) HO5.out
  | false =>
    rw [hg] at y7
    have HL := hide (show lessL ty = { ty with tries := ty.tries - 1 } by unfold lessL; rw [if_neg (by rw [hg]; decide)])
    have HX : Hid (∀ z, z = ty.tries - 1 → PIs (w3.setCell ⟨g, 14, none⟩ (.int .i64 z)) B g ⟨tx, lessL ty, true⟩ ∧ Only (fun k => k = g) w (w3.setCell ⟨g, 14, none⟩ (.int .i64 z)) ∧ (w3.setCell ⟨g, 14, none⟩ (.int .i64 z)).heap[w.heap.size]? = some (.cells #[.string { data := #[] }, .int .i64 0, .string { data := #[] }, .int .i64 0, .int .i64 0] 27)) := by
      rintro z rfl
      refine ⟨⟨?_, HG3.out.2⟩, ?_, ?_⟩
      · rw [HL.out]
        exact hs14 HG3.out.1
      · exact HO3.out.setCell (p := ⟨g, 14, none⟩) rfl _
      · exact (Below.heap_setCell _ ⟨g, 14, none⟩ _ w.heap.size (fun e => hgR e.symm)).trans HR3.out
    clear hg
    go_wp2_with (fail)
    refine (CL.out _).mono ?_
    rintro e w5 ⟨rfl, hb5⟩
    have HX5 := hide (HX.out _ rfl)
    have HG5 := hide (HX5.out.1.below hb5)
    have HO5 := hide (HX5.out.2.1.after hb5)
    have HR5 := hide (blk_below HX5.out.2.2 hb5)
    clear hb5 x0 x1 x2 x3 x4 x5 x6 x7 y0 y1 y2 y3 y4 y5 y6 y7 f6 HX5
    obtain ⟨p0, p1, p2, p3, p4⟩ := cellsS HR5.out
    have q0 := at_free HR5.out 0
    have q1 := at_free HR5.out 1
    have q2 := at_free HR5.out 2
    have q3 := at_free HR5.out 3
    have q4 := at_free HR5.out 4
    go_wp2
    refine bodyPost_ret (v := sgA ty.s) ?_ rfl ⟨rfl, ⟨?_, HG5.out.2⟩, ?_⟩
    · exact results_sg (p := 2) rfl _ _ w.heap.size _ rfl (r5 HR5.out) rfl
    · exact other5 hgR HG5.out.1
    · exact new5 (Nat.le_refl _) HO5.out

theorem less_s (l : Sl) : (lessL l).s = l.s := by unfold lessL; split <;> rfl
/-- As it is asked. -/
theorem startLaw : StartLaw Slt := by
  rintro p S t w B ⟨g, rfl, rfl, h, hok, hx, hy⟩ hB
  have hk := ok_start hok
  obtain ⟨tx, ty, r⟩ := t
  unfold startT at hk ⊢
  cases hq : pickT ⟨tx, ty, r⟩ with
  | false =>
    rw [hq] at hk
    refine (start_lo g tx ty r w B h hq hok.x.1 hok.x.2 hx).mono ?_
    rintro e w' ⟨rfl, h1, h2⟩
    exact ⟨fun k => k = g, rfl, ⟨g, rfl, rfl, h1, hk, by show szS (lessL tx).s; rw [less_s]; exact hx, hy⟩, h2, fun b hb => Or.inl hb⟩
  | true =>
    rw [hq] at hk
    refine (start_hi g tx ty r w B h hq hok.y.1 hok.y.2 hy).mono ?_
    rintro e w' ⟨rfl, h1, h2⟩
    exact ⟨fun k => k = g, rfl, ⟨g, rfl, rfl, h1, hk, hx, by show szS (lessL ty).s; rw [less_s]; exact hy⟩, h2, fun b hb => Or.inl hb⟩

/-- While one slot is written: the other one, and which runs, are as they were. -/
def InvY (w0 : World) (g : Nat) (ks : List (Nat × Obj)) (x0 x1 x2 x3 x4 x5 x6 x7 z : Value) (W : World) : Prop :=
  Only (fun k => k = g) w0 W ∧ (∀ k ∈ ks, k.1 ≠ g ∧ W.heap[k.1]? = some k.2) ∧ ∃ y0 y1 y2 y3 y4 y5 y6 y7, W.heap[g]? = some (.cells #[x0, x1, x2, x3, x4, x5, x6, x7, y0, y1, y2, y3, y4, y5, y6, y7, z] 150)
section
variable {w0 W W' : World} {g : Nat} {ks : List (Nat × Obj)} {x0 x1 x2 x3 x4 x5 x6 x7 z u : Value}
theorem invY_S (h : InvY w0 g ks x0 x1 x2 x3 x4 x5 x6 x7 z W) : W.cell? ⟨g, 16, none⟩ = some z ∧ W.frozen? ⟨g, 8, none⟩ = false ∧ W.frozen? ⟨g, 9, none⟩ = false ∧ W.frozen? ⟨g, 10, none⟩ = false ∧ W.frozen? ⟨g, 11, none⟩ = false ∧ W.frozen? ⟨g, 12, none⟩ = false ∧ W.frozen? ⟨g, 13, none⟩ = false ∧ W.frozen? ⟨g, 14, none⟩ = false ∧ W.frozen? ⟨g, 15, none⟩ = false ∧ W.cell? ⟨g, 8, none⟩ = some (Image.cellAt W g 8) ∧ W.cell? ⟨g, 9, none⟩ = some (Image.cellAt W g 9) ∧ W.cell? ⟨g, 10, none⟩ = some (Image.cellAt W g 10) ∧ W.cell? ⟨g, 11, none⟩ = some (Image.cellAt W g 11) ∧ W.cell? ⟨g, 12, none⟩ = some (Image.cellAt W g 12) ∧ W.cell? ⟨g, 13, none⟩ = some (Image.cellAt W g 13) ∧ W.cell? ⟨g, 14, none⟩ = some (Image.cellAt W g 14) ∧ W.cell? ⟨g, 15, none⟩ = some (Image.cellAt W g 15) ∧ InvY w0 g ks x0 x1 x2 x3 x4 x5 x6 x7 z W := by
  have h' := h
  obtain ⟨_, _, y0, y1, y2, y3, y4, y5, y6, y7, h4⟩ := h
  have hc : ∀ i, W.cell? ⟨g, i, none⟩ = (#[x0, x1, x2, x3, x4, x5, x6, x7, y0, y1, y2, y3, y4, y5, y6, y7, z])[i]? := fun i => cell_of_row W g i _ _ _ h4
  exact ⟨hc 16, at_free h4 8, at_free h4 9, at_free h4 10, at_free h4 11, at_free h4 12, at_free h4 13, at_free h4 14, at_free h4 15, Image.cellAt_of (hc 8), Image.cellAt_of (hc 9), Image.cellAt_of (hc 10), Image.cellAt_of (hc 11), Image.cellAt_of (hc 12), Image.cellAt_of (hc 13), Image.cellAt_of (hc 14), Image.cellAt_of (hc 15), h'⟩
theorem invY_drew (h : InvY w0 g ks x0 x1 x2 x3 x4 x5 x6 x7 z W) : InvY w0 g ks x0 x1 x2 x3 x4 x5 x6 x7 z W.drew := ⟨h.1, h.2⟩
theorem invY_below (h : InvY w0 g ks x0 x1 x2 x3 x4 x5 x6 x7 z W) (hb : Below W.heap.size W W') : InvY w0 g ks x0 x1 x2 x3 x4 x5 x6 x7 z W' := by
  obtain ⟨h1, h2, y0, y1, y2, y3, y4, y5, y6, y7, h4⟩ := h
  exact ⟨h1.after hb, fun k hk => ⟨(h2 k hk).1, blk_below (h2 k hk).2 hb⟩, y0, y1, y2, y3, y4, y5, y6, y7, blk_below h4 hb⟩
theorem invY_set0 (h : InvY w0 g ks x0 x1 x2 x3 x4 x5 x6 x7 z W) : InvY w0 g ks x0 x1 x2 x3 x4 x5 x6 x7 z (W.setCell ⟨g, 8, none⟩ u) := by
  obtain ⟨h1, h2, y0, y1, y2, y3, y4, y5, y6, y7, h4⟩ := h
  exact ⟨h1.setCell (p := ⟨g, 8, none⟩) rfl u, fun k hk => ⟨(h2 k hk).1, other1 (h2 k hk).1 (h2 k hk).2⟩, _, _, _, _, _, _, _, _, hs8 h4⟩
theorem invY_set1 (h : InvY w0 g ks x0 x1 x2 x3 x4 x5 x6 x7 z W) : InvY w0 g ks x0 x1 x2 x3 x4 x5 x6 x7 z (W.setCell ⟨g, 9, none⟩ u) := by
  obtain ⟨h1, h2, y0, y1, y2, y3, y4, y5, y6, y7, h4⟩ := h
  exact ⟨h1.setCell (p := ⟨g, 9, none⟩) rfl u, fun k hk => ⟨(h2 k hk).1, other1 (h2 k hk).1 (h2 k hk).2⟩, _, _, _, _, _, _, _, _, hs9 h4⟩
theorem invY_set2 (h : InvY w0 g ks x0 x1 x2 x3 x4 x5 x6 x7 z W) : InvY w0 g ks x0 x1 x2 x3 x4 x5 x6 x7 z (W.setCell ⟨g, 10, none⟩ u) := by
  obtain ⟨h1, h2, y0, y1, y2, y3, y4, y5, y6, y7, h4⟩ := h
  exact ⟨h1.setCell (p := ⟨g, 10, none⟩) rfl u, fun k hk => ⟨(h2 k hk).1, other1 (h2 k hk).1 (h2 k hk).2⟩, _, _, _, _, _, _, _, _, hs10 h4⟩
theorem invY_set3 (h : InvY w0 g ks x0 x1 x2 x3 x4 x5 x6 x7 z W) : InvY w0 g ks x0 x1 x2 x3 x4 x5 x6 x7 z (W.setCell ⟨g, 11, none⟩ u) := by
  obtain ⟨h1, h2, y0, y1, y2, y3, y4, y5, y6, y7, h4⟩ := h
  exact ⟨h1.setCell (p := ⟨g, 11, none⟩) rfl u, fun k hk => ⟨(h2 k hk).1, other1 (h2 k hk).1 (h2 k hk).2⟩, _, _, _, _, _, _, _, _, hs11 h4⟩
theorem invY_set4 (h : InvY w0 g ks x0 x1 x2 x3 x4 x5 x6 x7 z W) : InvY w0 g ks x0 x1 x2 x3 x4 x5 x6 x7 z (W.setCell ⟨g, 12, none⟩ u) := by
  obtain ⟨h1, h2, y0, y1, y2, y3, y4, y5, y6, y7, h4⟩ := h
  exact ⟨h1.setCell (p := ⟨g, 12, none⟩) rfl u, fun k hk => ⟨(h2 k hk).1, other1 (h2 k hk).1 (h2 k hk).2⟩, _, _, _, _, _, _, _, _, hs12 h4⟩
theorem invY_set5 (h : InvY w0 g ks x0 x1 x2 x3 x4 x5 x6 x7 z W) : InvY w0 g ks x0 x1 x2 x3 x4 x5 x6 x7 z (W.setCell ⟨g, 13, none⟩ u) := by
  obtain ⟨h1, h2, y0, y1, y2, y3, y4, y5, y6, y7, h4⟩ := h
  exact ⟨h1.setCell (p := ⟨g, 13, none⟩) rfl u, fun k hk => ⟨(h2 k hk).1, other1 (h2 k hk).1 (h2 k hk).2⟩, _, _, _, _, _, _, _, _, hs13 h4⟩
theorem invY_set6 (h : InvY w0 g ks x0 x1 x2 x3 x4 x5 x6 x7 z W) : InvY w0 g ks x0 x1 x2 x3 x4 x5 x6 x7 z (W.setCell ⟨g, 14, none⟩ u) := by
  obtain ⟨h1, h2, y0, y1, y2, y3, y4, y5, y6, y7, h4⟩ := h
  exact ⟨h1.setCell (p := ⟨g, 14, none⟩) rfl u, fun k hk => ⟨(h2 k hk).1, other1 (h2 k hk).1 (h2 k hk).2⟩, _, _, _, _, _, _, _, _, hs14 h4⟩
theorem invY_set7 (h : InvY w0 g ks x0 x1 x2 x3 x4 x5 x6 x7 z W) : InvY w0 g ks x0 x1 x2 x3 x4 x5 x6 x7 z (W.setCell ⟨g, 15, none⟩ u) := by
  obtain ⟨h1, h2, y0, y1, y2, y3, y4, y5, y6, y7, h4⟩ := h
  exact ⟨h1.setCell (p := ⟨g, 15, none⟩) rfl u, fun k hk => ⟨(h2 k hk).1, other1 (h2 k hk).1 (h2 k hk).2⟩, _, _, _, _, _, _, _, _, hs15 h4⟩
theorem invY_eight {u0 u1 u2 u3 u4 u5 u6 u7 : Value} (h : InvY w0 g ks x0 x1 x2 x3 x4 x5 x6 x7 z W) : InvY w0 g ks x0 x1 x2 x3 x4 x5 x6 x7 z ((((((((W.setCell ⟨g, 8, none⟩ u0).setCell ⟨g, 9, none⟩ u1).setCell ⟨g, 10, none⟩ u2).setCell ⟨g, 11, none⟩ u3).setCell ⟨g, 12, none⟩ u4).setCell ⟨g, 13, none⟩ u5).setCell ⟨g, 14, none⟩ u6).setCell ⟨g, 15, none⟩ u7) := invY_set7 (invY_set6 (invY_set5 (invY_set4 (invY_set3 (invY_set2 (invY_set1 (invY_set0 h)))))))
theorem invY_put (h : InvY w0 g ks x0 x1 x2 x3 x4 x5 x6 x7 z W) (u0 u1 u2 u3 u4 u5 u6 u7 : Value) : ((((((((W.setCell ⟨g, 8, none⟩ u0).setCell ⟨g, 9, none⟩ u1).setCell ⟨g, 10, none⟩ u2).setCell ⟨g, 11, none⟩ u3).setCell ⟨g, 12, none⟩ u4).setCell ⟨g, 13, none⟩ u5).setCell ⟨g, 14, none⟩ u6).setCell ⟨g, 15, none⟩ u7).heap[g]? = some (.cells #[x0, x1, x2, x3, x4, x5, x6, x7, u0, u1, u2, u3, u4, u5, u6, u7, z] 150) ∧ Only (fun k => k = g) w0 ((((((((W.setCell ⟨g, 8, none⟩ u0).setCell ⟨g, 9, none⟩ u1).setCell ⟨g, 10, none⟩ u2).setCell ⟨g, 11, none⟩ u3).setCell ⟨g, 12, none⟩ u4).setCell ⟨g, 13, none⟩ u5).setCell ⟨g, 14, none⟩ u6).setCell ⟨g, 15, none⟩ u7) := by
  obtain ⟨h1, h2, y0, y1, y2, y3, y4, y5, y6, y7, h4⟩ := h
  exact ⟨hs15 (hs14 (hs13 (hs12 (hs11 (hs10 (hs9 (hs8 h4))))))), only8 rfl h1⟩
end
/-- While one slot is written: the other one, and which runs, are as they were. -/
def InvX (w0 : World) (g : Nat) (ks : List (Nat × Obj)) (y0 y1 y2 y3 y4 y5 y6 y7 z : Value) (W : World) : Prop :=
  Only (fun k => k = g) w0 W ∧ (∀ k ∈ ks, k.1 ≠ g ∧ W.heap[k.1]? = some k.2) ∧ ∃ x0 x1 x2 x3 x4 x5 x6 x7, W.heap[g]? = some (.cells #[x0, x1, x2, x3, x4, x5, x6, x7, y0, y1, y2, y3, y4, y5, y6, y7, z] 150)
section
variable {w0 W W' : World} {g : Nat} {ks : List (Nat × Obj)} {y0 y1 y2 y3 y4 y5 y6 y7 z u : Value}
theorem invX_S (h : InvX w0 g ks y0 y1 y2 y3 y4 y5 y6 y7 z W) : W.cell? ⟨g, 16, none⟩ = some z ∧ W.frozen? ⟨g, 0, none⟩ = false ∧ W.frozen? ⟨g, 1, none⟩ = false ∧ W.frozen? ⟨g, 2, none⟩ = false ∧ W.frozen? ⟨g, 3, none⟩ = false ∧ W.frozen? ⟨g, 4, none⟩ = false ∧ W.frozen? ⟨g, 5, none⟩ = false ∧ W.frozen? ⟨g, 6, none⟩ = false ∧ W.frozen? ⟨g, 7, none⟩ = false ∧ W.cell? ⟨g, 0, none⟩ = some (Image.cellAt W g 0) ∧ W.cell? ⟨g, 1, none⟩ = some (Image.cellAt W g 1) ∧ W.cell? ⟨g, 2, none⟩ = some (Image.cellAt W g 2) ∧ W.cell? ⟨g, 3, none⟩ = some (Image.cellAt W g 3) ∧ W.cell? ⟨g, 4, none⟩ = some (Image.cellAt W g 4) ∧ W.cell? ⟨g, 5, none⟩ = some (Image.cellAt W g 5) ∧ W.cell? ⟨g, 6, none⟩ = some (Image.cellAt W g 6) ∧ W.cell? ⟨g, 7, none⟩ = some (Image.cellAt W g 7) ∧ InvX w0 g ks y0 y1 y2 y3 y4 y5 y6 y7 z W := by
  have h' := h
  obtain ⟨_, _, x0, x1, x2, x3, x4, x5, x6, x7, h4⟩ := h
  have hc : ∀ i, W.cell? ⟨g, i, none⟩ = (#[x0, x1, x2, x3, x4, x5, x6, x7, y0, y1, y2, y3, y4, y5, y6, y7, z])[i]? := fun i => cell_of_row W g i _ _ _ h4
  exact ⟨hc 16, at_free h4 0, at_free h4 1, at_free h4 2, at_free h4 3, at_free h4 4, at_free h4 5, at_free h4 6, at_free h4 7, Image.cellAt_of (hc 0), Image.cellAt_of (hc 1), Image.cellAt_of (hc 2), Image.cellAt_of (hc 3), Image.cellAt_of (hc 4), Image.cellAt_of (hc 5), Image.cellAt_of (hc 6), Image.cellAt_of (hc 7), h'⟩
theorem invX_drew (h : InvX w0 g ks y0 y1 y2 y3 y4 y5 y6 y7 z W) : InvX w0 g ks y0 y1 y2 y3 y4 y5 y6 y7 z W.drew := ⟨h.1, h.2⟩
theorem invX_below (h : InvX w0 g ks y0 y1 y2 y3 y4 y5 y6 y7 z W) (hb : Below W.heap.size W W') : InvX w0 g ks y0 y1 y2 y3 y4 y5 y6 y7 z W' := by
  obtain ⟨h1, h2, x0, x1, x2, x3, x4, x5, x6, x7, h4⟩ := h
  exact ⟨h1.after hb, fun k hk => ⟨(h2 k hk).1, blk_below (h2 k hk).2 hb⟩, x0, x1, x2, x3, x4, x5, x6, x7, blk_below h4 hb⟩
theorem invX_set0 (h : InvX w0 g ks y0 y1 y2 y3 y4 y5 y6 y7 z W) : InvX w0 g ks y0 y1 y2 y3 y4 y5 y6 y7 z (W.setCell ⟨g, 0, none⟩ u) := by
  obtain ⟨h1, h2, x0, x1, x2, x3, x4, x5, x6, x7, h4⟩ := h
  exact ⟨h1.setCell (p := ⟨g, 0, none⟩) rfl u, fun k hk => ⟨(h2 k hk).1, other1 (h2 k hk).1 (h2 k hk).2⟩, _, _, _, _, _, _, _, _, hs0 h4⟩
theorem invX_set1 (h : InvX w0 g ks y0 y1 y2 y3 y4 y5 y6 y7 z W) : InvX w0 g ks y0 y1 y2 y3 y4 y5 y6 y7 z (W.setCell ⟨g, 1, none⟩ u) := by
  obtain ⟨h1, h2, x0, x1, x2, x3, x4, x5, x6, x7, h4⟩ := h
  exact ⟨h1.setCell (p := ⟨g, 1, none⟩) rfl u, fun k hk => ⟨(h2 k hk).1, other1 (h2 k hk).1 (h2 k hk).2⟩, _, _, _, _, _, _, _, _, hs1 h4⟩
theorem invX_set2 (h : InvX w0 g ks y0 y1 y2 y3 y4 y5 y6 y7 z W) : InvX w0 g ks y0 y1 y2 y3 y4 y5 y6 y7 z (W.setCell ⟨g, 2, none⟩ u) := by
  obtain ⟨h1, h2, x0, x1, x2, x3, x4, x5, x6, x7, h4⟩ := h
  exact ⟨h1.setCell (p := ⟨g, 2, none⟩) rfl u, fun k hk => ⟨(h2 k hk).1, other1 (h2 k hk).1 (h2 k hk).2⟩, _, _, _, _, _, _, _, _, hs2 h4⟩
theorem invX_set3 (h : InvX w0 g ks y0 y1 y2 y3 y4 y5 y6 y7 z W) : InvX w0 g ks y0 y1 y2 y3 y4 y5 y6 y7 z (W.setCell ⟨g, 3, none⟩ u) := by
  obtain ⟨h1, h2, x0, x1, x2, x3, x4, x5, x6, x7, h4⟩ := h
  exact ⟨h1.setCell (p := ⟨g, 3, none⟩) rfl u, fun k hk => ⟨(h2 k hk).1, other1 (h2 k hk).1 (h2 k hk).2⟩, _, _, _, _, _, _, _, _, hs3 h4⟩
theorem invX_set4 (h : InvX w0 g ks y0 y1 y2 y3 y4 y5 y6 y7 z W) : InvX w0 g ks y0 y1 y2 y3 y4 y5 y6 y7 z (W.setCell ⟨g, 4, none⟩ u) := by
  obtain ⟨h1, h2, x0, x1, x2, x3, x4, x5, x6, x7, h4⟩ := h
  exact ⟨h1.setCell (p := ⟨g, 4, none⟩) rfl u, fun k hk => ⟨(h2 k hk).1, other1 (h2 k hk).1 (h2 k hk).2⟩, _, _, _, _, _, _, _, _, hs4 h4⟩
theorem invX_set5 (h : InvX w0 g ks y0 y1 y2 y3 y4 y5 y6 y7 z W) : InvX w0 g ks y0 y1 y2 y3 y4 y5 y6 y7 z (W.setCell ⟨g, 5, none⟩ u) := by
  obtain ⟨h1, h2, x0, x1, x2, x3, x4, x5, x6, x7, h4⟩ := h
  exact ⟨h1.setCell (p := ⟨g, 5, none⟩) rfl u, fun k hk => ⟨(h2 k hk).1, other1 (h2 k hk).1 (h2 k hk).2⟩, _, _, _, _, _, _, _, _, hs5 h4⟩
theorem invX_set6 (h : InvX w0 g ks y0 y1 y2 y3 y4 y5 y6 y7 z W) : InvX w0 g ks y0 y1 y2 y3 y4 y5 y6 y7 z (W.setCell ⟨g, 6, none⟩ u) := by
  obtain ⟨h1, h2, x0, x1, x2, x3, x4, x5, x6, x7, h4⟩ := h
  exact ⟨h1.setCell (p := ⟨g, 6, none⟩) rfl u, fun k hk => ⟨(h2 k hk).1, other1 (h2 k hk).1 (h2 k hk).2⟩, _, _, _, _, _, _, _, _, hs6 h4⟩
theorem invX_set7 (h : InvX w0 g ks y0 y1 y2 y3 y4 y5 y6 y7 z W) : InvX w0 g ks y0 y1 y2 y3 y4 y5 y6 y7 z (W.setCell ⟨g, 7, none⟩ u) := by
  obtain ⟨h1, h2, x0, x1, x2, x3, x4, x5, x6, x7, h4⟩ := h
  exact ⟨h1.setCell (p := ⟨g, 7, none⟩) rfl u, fun k hk => ⟨(h2 k hk).1, other1 (h2 k hk).1 (h2 k hk).2⟩, _, _, _, _, _, _, _, _, hs7 h4⟩
theorem invX_eight {u0 u1 u2 u3 u4 u5 u6 u7 : Value} (h : InvX w0 g ks y0 y1 y2 y3 y4 y5 y6 y7 z W) : InvX w0 g ks y0 y1 y2 y3 y4 y5 y6 y7 z ((((((((W.setCell ⟨g, 0, none⟩ u0).setCell ⟨g, 1, none⟩ u1).setCell ⟨g, 2, none⟩ u2).setCell ⟨g, 3, none⟩ u3).setCell ⟨g, 4, none⟩ u4).setCell ⟨g, 5, none⟩ u5).setCell ⟨g, 6, none⟩ u6).setCell ⟨g, 7, none⟩ u7) := invX_set7 (invX_set6 (invX_set5 (invX_set4 (invX_set3 (invX_set2 (invX_set1 (invX_set0 h)))))))
theorem invX_put (h : InvX w0 g ks y0 y1 y2 y3 y4 y5 y6 y7 z W) (u0 u1 u2 u3 u4 u5 u6 u7 : Value) : ((((((((W.setCell ⟨g, 0, none⟩ u0).setCell ⟨g, 1, none⟩ u1).setCell ⟨g, 2, none⟩ u2).setCell ⟨g, 3, none⟩ u3).setCell ⟨g, 4, none⟩ u4).setCell ⟨g, 5, none⟩ u5).setCell ⟨g, 6, none⟩ u6).setCell ⟨g, 7, none⟩ u7).heap[g]? = some (.cells #[u0, u1, u2, u3, u4, u5, u6, u7, y0, y1, y2, y3, y4, y5, y6, y7, z] 150) ∧ Only (fun k => k = g) w0 ((((((((W.setCell ⟨g, 0, none⟩ u0).setCell ⟨g, 1, none⟩ u1).setCell ⟨g, 2, none⟩ u2).setCell ⟨g, 3, none⟩ u3).setCell ⟨g, 4, none⟩ u4).setCell ⟨g, 5, none⟩ u5).setCell ⟨g, 6, none⟩ u6).setCell ⟨g, 7, none⟩ u7) := by
  obtain ⟨h1, h2, x0, x1, x2, x3, x4, x5, x6, x7, h4⟩ := h
  exact ⟨hs7 (hs6 (hs5 (hs4 (hs3 (hs2 (hs1 (hs0 h4))))))), only8 rfl h1⟩
end

set_option maxHeartbeats 1000000 in
theorem good_is (g : Nat) (t : St) (w : World) (B : Nat) (h : PIs w B g t) (hg : (t.at t.r).good = true) :
    Calls Tryz.prog 54 #[.pointer (some ⟨g, 0, none⟩)] w fun e w' => e = .returned (errV 96 7) ∧ Below w.heap.size w w' := by
  obtain ⟨⟨x0, x1, x2, x3, x4, x5, x6, x7⟩, ⟨y0, y1, y2, y3, y4, y5, y6, y7⟩, z⟩ := cells8 h.1
  clear h
  obtain ⟨tx, ty, r⟩ := t
  cases r
  · simp only [St.at, idx] at *
    rw [hg] at x7
    go_enter Tryz.func54, Tryz.ntmps54
    go_wp2_with (fail)
    go_quiet (fail)
    go_wp2
    go_ret
    exact ⟨rfl, quiet_below _ _⟩
  · simp only [St.at, idx] at *
    rw [hg] at y7
    go_enter Tryz.func54, Tryz.ntmps54
    go_wp2_with (fail)
    go_quiet (fail)
    go_wp2
    go_ret
    exact ⟨rfl, quiet_below _ _⟩

set_option maxHeartbeats 2000000 in
theorem good_lo (g : Nat) (tx ty : Sl) (w : World) (B : Nat) (h : PIs w B g ⟨tx, ty, false⟩) (hg : tx.good = false) :
    Calls Tryz.prog 54 #[.pointer (some ⟨g, 0, none⟩)] w fun e w' => e = .returned .nilIface ∧ PIs w' B g ⟨⟨tx.s, tx.full, 0, true⟩, noSl, false⟩ ∧ Only (fun k => k = g) w w' := by
  have HG := hide h
  clear h
  obtain ⟨_, _, z⟩ := cells8 HG.out.1
  simp only [idx] at z
  have HQ := hide (show ∀ n, PIs (w.drewN n) B g ⟨tx, ty, false⟩ ∧ Only (fun k => k = g) w (w.drewN n) from fun n => ⟨HG.out.below (quiet_below w n), Only.of_below (quiet_below w n)⟩)
  go_enter Tryz.func54, Tryz.ntmps54
  go_wp2_with (fail)
  go_quiet (fail)
  have HG1 := hide (HQ.out nq).1
  have HO1 := hide (HQ.out nq).2
  clear z HQ
  generalize w.drewN nq = w1 at *
  obtain ⟨⟨x0, x1, x2, x3, x4, x5, x6, x7⟩, ⟨y0, y1, y2, y3, y4, y5, y6, y7⟩, z⟩ := cells8 HG1.out.1
  have f6 := at_free HG1.out.1 6
  have f7 := at_free HG1.out.1 7
  rw [hg] at x7
  simp only [idx] at z
  go_upto_region 5 with (fail)
  have HI : InvY w g [] (.string tx.s.nm) (.int .i64 tx.s.v) (.string tx.s.cd) (.int .i64 tx.s.p) (.int .i64 tx.s.a) (.bool tx.full) (.int .i64 0) (.bool true) (.int .i64 0) ((w1.setCell ⟨g, 7, none⟩ (.bool true)).setCell ⟨g, 6, none⟩ (.int .i64 0)) :=
    ⟨(HO1.out.setCell (p := ⟨g, 7, none⟩) rfl _).setCell (p := ⟨g, 6, none⟩) rfl _, (fun k hk => nomatch hk), _, _, _, _, _, _, _, _, hs6 (hs7 HG1.out.1)⟩
  clear x0 x1 x2 x3 x4 x5 x6 x7 y0 y1 y2 y3 y4 y5 y6 y7 z f6 f7 HO1
  generalize (w1.setCell ⟨g, 7, none⟩ (.bool true)).setCell ⟨g, 6, none⟩ (.int .i64 0) = w2 at *
  obtain ⟨z, f0, f1, f2, f3, f4, f5, f6, f7, c0, c1, c2, c3, c4, c5, c6, c7, _⟩ := invY_S HI
  go_region_held3 (fun W => W.cell? ⟨g, 16, none⟩ = some (.int .i64 0) ∧ W.frozen? ⟨g, 8, none⟩ = false ∧ W.frozen? ⟨g, 9, none⟩ = false ∧ W.frozen? ⟨g, 10, none⟩ = false ∧ W.frozen? ⟨g, 11, none⟩ = false ∧ W.frozen? ⟨g, 12, none⟩ = false ∧ W.frozen? ⟨g, 13, none⟩ = false ∧ W.frozen? ⟨g, 14, none⟩ = false ∧ W.frozen? ⟨g, 15, none⟩ = false ∧ W.cell? ⟨g, 8, none⟩ = some (Image.cellAt W g 8) ∧ W.cell? ⟨g, 9, none⟩ = some (Image.cellAt W g 9) ∧ W.cell? ⟨g, 10, none⟩ = some (Image.cellAt W g 10) ∧ W.cell? ⟨g, 11, none⟩ = some (Image.cellAt W g 11) ∧ W.cell? ⟨g, 12, none⟩ = some (Image.cellAt W g 12) ∧ W.cell? ⟨g, 13, none⟩ = some (Image.cellAt W g 13) ∧ W.cell? ⟨g, 14, none⟩ = some (Image.cellAt W g 14) ∧ W.cell? ⟨g, 15, none⟩ = some (Image.cellAt W g 15) ∧ InvY w g [] (.string tx.s.nm) (.int .i64 tx.s.v) (.string tx.s.cd) (.int .i64 tx.s.p) (.int .i64 tx.s.a) (.bool tx.full) (.int .i64 0) (.bool true) (.int .i64 0) W)
    (exact invY_S (by with_reducible repeat (first | assumption | apply invY_drew | apply invY_eight)))
    (first | (go_at_call 91; refine (other0 _).mono ?_; rintro e w5 ⟨rfl, h5⟩; subst h5))
  all_goals
    go_wp2
    go_ret
    refine ⟨rfl, ⟨?_, HG1.out.2⟩, ?_⟩
    · try simp only [drew_heap]
      exact (invY_put (w0 := w) (ks := []) (x0 := (.string tx.s.nm)) (x1 := (.int .i64 tx.s.v)) (x2 := (.string tx.s.cd)) (x3 := (.int .i64 tx.s.p)) (x4 := (.int .i64 tx.s.a)) (x5 := (.bool tx.full)) (x6 := (.int .i64 0)) (x7 := (.bool true)) (z := (.int .i64 0)) (by with_reducible repeat (first | assumption | apply invY_drew | apply invY_eight)) _ _ _ _ _ _ _ _).1
    · try simp only [drew_only]
      exact (invY_put (w0 := w) (ks := []) (x0 := (.string tx.s.nm)) (x1 := (.int .i64 tx.s.v)) (x2 := (.string tx.s.cd)) (x3 := (.int .i64 tx.s.p)) (x4 := (.int .i64 tx.s.a)) (x5 := (.bool tx.full)) (x6 := (.int .i64 0)) (x7 := (.bool true)) (z := (.int .i64 0)) (by with_reducible repeat (first | assumption | apply invY_drew | apply invY_eight)) _ _ _ _ _ _ _ _).2

set_option maxHeartbeats 2000000 in
theorem good_hi (g : Nat) (tx ty : Sl) (w : World) (B : Nat) (h : PIs w B g ⟨tx, ty, true⟩) (hg : ty.good = false) :
    Calls Tryz.prog 54 #[.pointer (some ⟨g, 0, none⟩)] w fun e w' => e = .returned .nilIface ∧ PIs w' B g ⟨noSl, ⟨ty.s, ty.full, 0, true⟩, true⟩ ∧ Only (fun k => k = g) w w' := by
  have HG := hide h
  clear h
  obtain ⟨_, _, z⟩ := cells8 HG.out.1
  simp only [idx] at z
  have HQ := hide (show ∀ n, PIs (w.drewN n) B g ⟨tx, ty, true⟩ ∧ Only (fun k => k = g) w (w.drewN n) from fun n => ⟨HG.out.below (quiet_below w n), Only.of_below (quiet_below w n)⟩)
  go_enter Tryz.func54, Tryz.ntmps54
  go_wp2_with (fail)
  go_quiet (fail)
  have HG1 := hide (HQ.out nq).1
  have HO1 := hide (HQ.out nq).2
  clear z HQ
  generalize w.drewN nq = w1 at *
  obtain ⟨⟨x0, x1, x2, x3, x4, x5, x6, x7⟩, ⟨y0, y1, y2, y3, y4, y5, y6, y7⟩, z⟩ := cells8 HG1.out.1
  have f6 := at_free HG1.out.1 14
  have f7 := at_free HG1.out.1 15
  rw [hg] at y7
  simp only [idx] at z
  go_upto_region 5 with (fail)
  have HI : InvX w g [] (.string ty.s.nm) (.int .i64 ty.s.v) (.string ty.s.cd) (.int .i64 ty.s.p) (.int .i64 ty.s.a) (.bool ty.full) (.int .i64 0) (.bool true) (.int .i64 1) ((w1.setCell ⟨g, 15, none⟩ (.bool true)).setCell ⟨g, 14, none⟩ (.int .i64 0)) :=
    ⟨(HO1.out.setCell (p := ⟨g, 15, none⟩) rfl _).setCell (p := ⟨g, 14, none⟩) rfl _, (fun k hk => nomatch hk), _, _, _, _, _, _, _, _, hs14 (hs15 HG1.out.1)⟩
  clear x0 x1 x2 x3 x4 x5 x6 x7 y0 y1 y2 y3 y4 y5 y6 y7 z f6 f7 HO1
  generalize (w1.setCell ⟨g, 15, none⟩ (.bool true)).setCell ⟨g, 14, none⟩ (.int .i64 0) = w2 at *
  obtain ⟨z, f0, f1, f2, f3, f4, f5, f6, f7, c0, c1, c2, c3, c4, c5, c6, c7, _⟩ := invX_S HI
  go_region_held3 (fun W => W.cell? ⟨g, 16, none⟩ = some (.int .i64 1) ∧ W.frozen? ⟨g, 0, none⟩ = false ∧ W.frozen? ⟨g, 1, none⟩ = false ∧ W.frozen? ⟨g, 2, none⟩ = false ∧ W.frozen? ⟨g, 3, none⟩ = false ∧ W.frozen? ⟨g, 4, none⟩ = false ∧ W.frozen? ⟨g, 5, none⟩ = false ∧ W.frozen? ⟨g, 6, none⟩ = false ∧ W.frozen? ⟨g, 7, none⟩ = false ∧ W.cell? ⟨g, 0, none⟩ = some (Image.cellAt W g 0) ∧ W.cell? ⟨g, 1, none⟩ = some (Image.cellAt W g 1) ∧ W.cell? ⟨g, 2, none⟩ = some (Image.cellAt W g 2) ∧ W.cell? ⟨g, 3, none⟩ = some (Image.cellAt W g 3) ∧ W.cell? ⟨g, 4, none⟩ = some (Image.cellAt W g 4) ∧ W.cell? ⟨g, 5, none⟩ = some (Image.cellAt W g 5) ∧ W.cell? ⟨g, 6, none⟩ = some (Image.cellAt W g 6) ∧ W.cell? ⟨g, 7, none⟩ = some (Image.cellAt W g 7) ∧ InvX w g [] (.string ty.s.nm) (.int .i64 ty.s.v) (.string ty.s.cd) (.int .i64 ty.s.p) (.int .i64 ty.s.a) (.bool ty.full) (.int .i64 0) (.bool true) (.int .i64 1) W)
    (exact invX_S (by with_reducible repeat (first | assumption | apply invX_drew | apply invX_eight)))
    (first | (go_at_call 91; refine (other9 _).mono ?_; rintro e w5 ⟨rfl, h5⟩; subst h5))
  all_goals
    go_wp2
    go_ret
    refine ⟨rfl, ⟨?_, HG1.out.2⟩, ?_⟩
    · try simp only [drew_heap]
      exact (invX_put (w0 := w) (ks := []) (y0 := (.string ty.s.nm)) (y1 := (.int .i64 ty.s.v)) (y2 := (.string ty.s.cd)) (y3 := (.int .i64 ty.s.p)) (y4 := (.int .i64 ty.s.a)) (y5 := (.bool ty.full)) (y6 := (.int .i64 0)) (y7 := (.bool true)) (z := (.int .i64 1)) (by with_reducible repeat (first | assumption | apply invX_drew | apply invX_eight)) _ _ _ _ _ _ _ _).1
    · try simp only [drew_only]
      exact (invX_put (w0 := w) (ks := []) (y0 := (.string ty.s.nm)) (y1 := (.int .i64 ty.s.v)) (y2 := (.string ty.s.cd)) (y3 := (.int .i64 ty.s.p)) (y4 := (.int .i64 ty.s.a)) (y5 := (.bool ty.full)) (y6 := (.int .i64 0)) (y7 := (.bool true)) (z := (.int .i64 1)) (by with_reducible repeat (first | assumption | apply invX_drew | apply invX_eight)) _ _ _ _ _ _ _ _).2

/-- As it is asked. -/
theorem goodLaw : GoodLaw Slt := by
  rintro p S t w B ⟨g, rfl, rfl, h, hok, hx, hy⟩ hB
  have hk := ok_good hok
  unfold goodE
  unfold goodT at hk ⊢
  cases hg : (t.at t.r).good with
  | true =>
    rw [if_pos rfl]
    refine (good_is g t w B h hg).mono ?_
    rintro e w' ⟨rfl, hb⟩
    exact ⟨fun k => k = g, rfl, ⟨g, rfl, rfl, by rw [if_pos rfl]; exact h.below hb, by rw [if_pos rfl]; exact hok, by rw [if_pos rfl]; exact hx, by rw [if_pos rfl]; exact hy⟩, Only.of_below hb, fun b hs => Or.inl hs⟩
  | false =>
    rw [if_neg (by rw [hg]; decide)] at hk
    rw [if_neg (by decide), if_neg (by decide), errV_zero]
    obtain ⟨tx, ty, r⟩ := t
    cases r
    · refine (good_lo g tx ty w B h hg).mono ?_
      rintro e w' ⟨rfl, h1, h2⟩
      exact ⟨fun k => k = g, rfl, ⟨g, rfl, rfl, h1, hk, hx, sz_no⟩, h2, fun b hs => Or.inl hs⟩
    · refine (good_hi g tx ty w B h hg).mono ?_
      rintro e w' ⟨rfl, h1, h2⟩
      exact ⟨fun k => k = g, rfl, ⟨g, rfl, rfl, h1, hk, sz_no, hy⟩, h2, fun b hs => Or.inl hs⟩

theorem invY_P {w0 W : World} {g P : Nat} {T : TypeId} {p0 p1 p2 p3 p4 x0 x1 x2 x3 x4 x5 x6 x7 z : Value} (h : InvY w0 g [(P, Obj.cells #[p0, p1, p2, p3, p4] T)] x0 x1 x2 x3 x4 x5 x6 x7 z W) : W.cell? ⟨P, 0, none⟩ = some p0 ∧ W.cell? ⟨P, 1, none⟩ = some p1 ∧ W.cell? ⟨P, 2, none⟩ = some p2 ∧ W.cell? ⟨P, 3, none⟩ = some p3 ∧ W.cell? ⟨P, 4, none⟩ = some p4 ∧ W.cell? ⟨g, 16, none⟩ = some z ∧ W.frozen? ⟨g, 8, none⟩ = false ∧ W.frozen? ⟨g, 9, none⟩ = false ∧ W.frozen? ⟨g, 10, none⟩ = false ∧ W.frozen? ⟨g, 11, none⟩ = false ∧ W.frozen? ⟨g, 12, none⟩ = false ∧ W.frozen? ⟨g, 13, none⟩ = false ∧ W.frozen? ⟨g, 14, none⟩ = false ∧ W.frozen? ⟨g, 15, none⟩ = false ∧ W.cell? ⟨g, 8, none⟩ = some (Image.cellAt W g 8) ∧ W.cell? ⟨g, 9, none⟩ = some (Image.cellAt W g 9) ∧ W.cell? ⟨g, 10, none⟩ = some (Image.cellAt W g 10) ∧ W.cell? ⟨g, 11, none⟩ = some (Image.cellAt W g 11) ∧ W.cell? ⟨g, 12, none⟩ = some (Image.cellAt W g 12) ∧ W.cell? ⟨g, 13, none⟩ = some (Image.cellAt W g 13) ∧ W.cell? ⟨g, 14, none⟩ = some (Image.cellAt W g 14) ∧ W.cell? ⟨g, 15, none⟩ = some (Image.cellAt W g 15) ∧ InvY w0 g [(P, Obj.cells #[p0, p1, p2, p3, p4] T)] x0 x1 x2 x3 x4 x5 x6 x7 z W := by
  obtain ⟨c0, c1, c2, c3, c4⟩ := cellsS (h.2.1 _ (List.mem_singleton.2 rfl)).2
  exact ⟨c0, c1, c2, c3, c4, invY_S h⟩
theorem invX_P {w0 W : World} {g P : Nat} {T : TypeId} {p0 p1 p2 p3 p4 y0 y1 y2 y3 y4 y5 y6 y7 z : Value} (h : InvX w0 g [(P, Obj.cells #[p0, p1, p2, p3, p4] T)] y0 y1 y2 y3 y4 y5 y6 y7 z W) : W.cell? ⟨P, 0, none⟩ = some p0 ∧ W.cell? ⟨P, 1, none⟩ = some p1 ∧ W.cell? ⟨P, 2, none⟩ = some p2 ∧ W.cell? ⟨P, 3, none⟩ = some p3 ∧ W.cell? ⟨P, 4, none⟩ = some p4 ∧ W.cell? ⟨g, 16, none⟩ = some z ∧ W.frozen? ⟨g, 0, none⟩ = false ∧ W.frozen? ⟨g, 1, none⟩ = false ∧ W.frozen? ⟨g, 2, none⟩ = false ∧ W.frozen? ⟨g, 3, none⟩ = false ∧ W.frozen? ⟨g, 4, none⟩ = false ∧ W.frozen? ⟨g, 5, none⟩ = false ∧ W.frozen? ⟨g, 6, none⟩ = false ∧ W.frozen? ⟨g, 7, none⟩ = false ∧ W.cell? ⟨g, 0, none⟩ = some (Image.cellAt W g 0) ∧ W.cell? ⟨g, 1, none⟩ = some (Image.cellAt W g 1) ∧ W.cell? ⟨g, 2, none⟩ = some (Image.cellAt W g 2) ∧ W.cell? ⟨g, 3, none⟩ = some (Image.cellAt W g 3) ∧ W.cell? ⟨g, 4, none⟩ = some (Image.cellAt W g 4) ∧ W.cell? ⟨g, 5, none⟩ = some (Image.cellAt W g 5) ∧ W.cell? ⟨g, 6, none⟩ = some (Image.cellAt W g 6) ∧ W.cell? ⟨g, 7, none⟩ = some (Image.cellAt W g 7) ∧ InvX w0 g [(P, Obj.cells #[p0, p1, p2, p3, p4] T)] y0 y1 y2 y3 y4 y5 y6 y7 z W := by
  obtain ⟨c0, c1, c2, c3, c4⟩ := cellsS (h.2.1 _ (List.mem_singleton.2 rfl)).2
  exact ⟨c0, c1, c2, c3, c4, invX_S h⟩
theorem put_zero {t : St} {s : Sg} (hE : sgE s = 0) (hg : (t.at t.r).good = true) : putE t s = 0 := by unfold putE; rw [if_pos hE, if_pos hg]
theorem put_six {t : St} {s : Sg} (hE : sgE s = 0) (hg : (t.at t.r).good = false) : putE t s = 6 := by unfold putE; rw [if_pos hE, if_neg (by rw [hg]; decide)]
theorem put_img {t : St} {s : Sg} (hE : ¬ sgE s = 0) : putE t s = sgE s := by unfold putE; rw [if_neg hE]
theorem putT_no {t : St} {s : Sg} (h : ¬ putE t s = 0) : putT t s = t := by unfold putT; rw [if_neg h]
theorem putT_yes {t : St} {s : Sg} (h : putE t s = 0) : putT t s = t.put (!t.r) ⟨s, true, 3, false⟩ := by unfold putT; rw [if_pos h]
set_option maxHeartbeats 2000000 in
theorem put_any (g : Nat) (t : St) (s : Sg) (w : World) (B : Nat) (h : PIs w B g t) (hs : szS s) :
    Calls Tryz.prog 97 #[.pointer (some ⟨g, 0, none⟩), sgA s] w fun e w' => e = .returned (errV 96 (putE t s)) ∧ PIs w' B g (putT t s) ∧ Only (fun k => k = g) w w' := by
  have hgl := blk_lt h.1
  have HGd := hide (put_zero (t := t) (s := s))
  have HBd := hide (put_six (t := t) (s := s))
  have HIm := hide (put_img (t := t) (s := s))
  have HNo := hide (putT_no (t := t) (s := s))
  have HYs := hide (putT_yes (t := t) (s := s))
  have CL := hide (fun W => clone_any s W hs)
  unfold sgE at HGd HBd HIm
  obtain ⟨nm, v, cd, p, a⟩ := s
  unfold sgA at CL ⊢
  simp only [] at CL HGd HBd HIm
  have IM := hide (fun W => Image.check_any nm cd v W hs.1 hs.2)
  have hbA := below_new w (.cells #[.string nm, .int .i64 v, .string cd, .int .i64 p, .int .i64 a] 27)
  have HB := hide hbA
  have HP := hide (blk_new w (.cells #[.string nm, .int .i64 v, .string cd, .int .i64 p, .int .i64 a] 27))
  have HG := hide (h.below hbA)
  clear h hs hbA
  unfold imgC at IM
  obtain ⟨p0, p1, p2, p3, p4⟩ := cellsS HP.out
  go_enter Tryz.func97, Tryz.ntmps97
  go_wp2_with (fail)
  refine (IM.out _).mono ?_
  rintro e w1 ⟨rfl, hb1⟩
  have HB1 := hide (below_on HB.out hb1)
  have HP1 := hide (blk_below HP.out hb1)
  have HG1 := hide (HG.out.below hb1)
  clear hb1 HB HP HG IM p0 p1 p2 p3 p4
  by_cases hE : imgE nm v cd = 0
  · have HE := hide hE
    rw [hE, errV_zero]
    clear hE HIm
    obtain ⟨⟨x0, x1, x2, x3, x4, x5, x6, x7⟩, ⟨y0, y1, y2, y3, y4, y5, y6, y7⟩, z⟩ := cells8 HG1.out.1
    have HQ := hide (show ∀ n, PIs (w1.drewN n) B g t ∧ Only (fun k => k = g) w (w1.drewN n) ∧ (w1.drewN n).heap[w.heap.size]? = some (.cells #[.string nm, .int .i64 v, .string cd, .int .i64 p, .int .i64 a] 27) from fun n => ⟨HG1.out.below (quiet_below _ _), (Only.of_below HB1.out).after (quiet_below _ _), blk_below HP1.out (quiet_below _ _)⟩)
    obtain ⟨tx, ty, r⟩ := t
    cases r
    · simp only [St.at, St.put, idx, Bool.not_false, Bool.not_true] at HGd HBd HYs x0 x1 x2 x3 x4 x5 x6 x7 y0 y1 y2 y3 y4 y5 y6 y7 z
      cases hg : tx.good with
      | false =>
        rw [hg] at x7
        have H6 := hide (HBd.out HE.out hg)
        have HN := hide (HNo.out (by rw [H6.out]; decide))
        clear hg HGd HBd HNo HYs
        go_wp2_with (fail)
        go_quiet (fail)
        go_wp2
        go_ret
        exact ⟨by rw [H6.out]; rfl, by rw [HN.out]; exact (HQ.out nq).1, (HQ.out nq).2.1⟩
      | true =>
        rw [hg] at x7
        have H0 := hide (HGd.out HE.out hg)
        have HN := hide (HYs.out H0.out)
        clear HGd HBd HNo HYs
        go_wp2_with (fail)
        go_quiet (fail)
        go_upto_region 6 with (fail)
        have HI : InvY w g [(w.heap.size, Obj.cells #[.string nm, .int .i64 v, .string cd, .int .i64 p, .int .i64 a] 27)] (.string tx.s.nm) (.int .i64 tx.s.v) (.string tx.s.cd) (.int .i64 tx.s.p) (.int .i64 tx.s.a) (.bool tx.full) (.int .i64 tx.tries) (.bool tx.good) (.int .i64 0) (w1.drewN nq) :=
          ⟨(HQ.out nq).2.1, fun k hk => by rcases List.mem_singleton.1 hk with rfl; exact ⟨by show w.heap.size ≠ g; omega, (HQ.out nq).2.2⟩, _, _, _, _, _, _, _, _, (HQ.out nq).1.1⟩
        clear hg x0 x1 x2 x3 x4 x5 x6 x7 y0 y1 y2 y3 y4 y5 y6 y7 z
        generalize w1.drewN nq = w2 at *
        obtain ⟨z, f0, f1, f2, f3, f4, f5, f6, f7, c0, c1, c2, c3, c4, c5, c6, c7, _⟩ := invY_S HI
        obtain ⟨p0, p1, p2, p3, p4⟩ := cellsS (HI.2.1 _ (List.mem_singleton.2 rfl)).2
        go_region_held3 (fun W => W.cell? ⟨w.heap.size, 0, none⟩ = some (.string nm) ∧ W.cell? ⟨w.heap.size, 1, none⟩ = some (.int .i64 v) ∧ W.cell? ⟨w.heap.size, 2, none⟩ = some (.string cd) ∧ W.cell? ⟨w.heap.size, 3, none⟩ = some (.int .i64 p) ∧ W.cell? ⟨w.heap.size, 4, none⟩ = some (.int .i64 a) ∧ W.cell? ⟨g, 16, none⟩ = some (.int .i64 0) ∧ W.frozen? ⟨g, 8, none⟩ = false ∧ W.frozen? ⟨g, 9, none⟩ = false ∧ W.frozen? ⟨g, 10, none⟩ = false ∧ W.frozen? ⟨g, 11, none⟩ = false ∧ W.frozen? ⟨g, 12, none⟩ = false ∧ W.frozen? ⟨g, 13, none⟩ = false ∧ W.frozen? ⟨g, 14, none⟩ = false ∧ W.frozen? ⟨g, 15, none⟩ = false ∧ W.cell? ⟨g, 8, none⟩ = some (Image.cellAt W g 8) ∧ W.cell? ⟨g, 9, none⟩ = some (Image.cellAt W g 9) ∧ W.cell? ⟨g, 10, none⟩ = some (Image.cellAt W g 10) ∧ W.cell? ⟨g, 11, none⟩ = some (Image.cellAt W g 11) ∧ W.cell? ⟨g, 12, none⟩ = some (Image.cellAt W g 12) ∧ W.cell? ⟨g, 13, none⟩ = some (Image.cellAt W g 13) ∧ W.cell? ⟨g, 14, none⟩ = some (Image.cellAt W g 14) ∧ W.cell? ⟨g, 15, none⟩ = some (Image.cellAt W g 15) ∧ InvY w g [(w.heap.size, Obj.cells #[.string nm, .int .i64 v, .string cd, .int .i64 p, .int .i64 a] 27)] (.string tx.s.nm) (.int .i64 tx.s.v) (.string tx.s.cd) (.int .i64 tx.s.p) (.int .i64 tx.s.a) (.bool tx.full) (.int .i64 tx.tries) (.bool tx.good) (.int .i64 0) W)
          (exact invY_P (by with_reducible repeat (first | assumption | apply invY_drew | apply invY_eight)))
          (first | (go_at_call 91; refine (other0 _).mono ?_; rintro e w5 ⟨rfl, h5⟩; subst h5) | (go_at_call 88; refine (CL.out _).mono ?_; rintro e w5 ⟨rfl, hb5⟩; have hI5 : InvY w g [(w.heap.size, Obj.cells #[.string nm, .int .i64 v, .string cd, .int .i64 p, .int .i64 a] 27)] (.string tx.s.nm) (.int .i64 tx.s.v) (.string tx.s.cd) (.int .i64 tx.s.p) (.int .i64 tx.s.a) (.bool tx.full) (.int .i64 tx.tries) (.bool tx.good) (.int .i64 0) w5 := invY_below (by with_reducible repeat (first | assumption | apply invY_drew | apply invY_eight)) hb5; clear hb5; obtain ⟨p50, p51, p52, p53, p54, z5, f50, f51, f52, f53, f54, f55, f56, f57, c50, c51, c52, c53, c54, c55, c56, c57, _⟩ := invY_P hI5))
        all_goals
          go_wp2
          go_ret
          refine ⟨by rw [H0.out]; rfl, ⟨?_, HG1.out.2⟩, ?_⟩
          · rw [HN.out]
            try simp only [drew_heap]
            exact (invY_put (w0 := w) (ks := [(w.heap.size, Obj.cells #[.string nm, .int .i64 v, .string cd, .int .i64 p, .int .i64 a] 27)]) (x0 := (.string tx.s.nm)) (x1 := (.int .i64 tx.s.v)) (x2 := (.string tx.s.cd)) (x3 := (.int .i64 tx.s.p)) (x4 := (.int .i64 tx.s.a)) (x5 := (.bool tx.full)) (x6 := (.int .i64 tx.tries)) (x7 := (.bool tx.good)) (z := (.int .i64 0)) (by with_reducible repeat (first | assumption | apply invY_drew | apply invY_eight)) _ _ _ _ _ _ _ _).1
          · try simp only [drew_only]
            exact (invY_put (w0 := w) (ks := [(w.heap.size, Obj.cells #[.string nm, .int .i64 v, .string cd, .int .i64 p, .int .i64 a] 27)]) (x0 := (.string tx.s.nm)) (x1 := (.int .i64 tx.s.v)) (x2 := (.string tx.s.cd)) (x3 := (.int .i64 tx.s.p)) (x4 := (.int .i64 tx.s.a)) (x5 := (.bool tx.full)) (x6 := (.int .i64 tx.tries)) (x7 := (.bool tx.good)) (z := (.int .i64 0)) (by with_reducible repeat (first | assumption | apply invY_drew | apply invY_eight)) _ _ _ _ _ _ _ _).2
    · simp only [St.at, St.put, idx, Bool.not_false, Bool.not_true] at HGd HBd HYs x0 x1 x2 x3 x4 x5 x6 x7 y0 y1 y2 y3 y4 y5 y6 y7 z
      cases hg : ty.good with
      | false =>
        rw [hg] at y7
        have H6 := hide (HBd.out HE.out hg)
        have HN := hide (HNo.out (by rw [H6.out]; decide))
        clear hg HGd HBd HNo HYs
        go_wp2_with (fail)
        go_quiet (fail)
        go_wp2
        go_ret
        exact ⟨by rw [H6.out]; rfl, by rw [HN.out]; exact (HQ.out nq).1, (HQ.out nq).2.1⟩
      | true =>
        rw [hg] at y7
        have H0 := hide (HGd.out HE.out hg)
        have HN := hide (HYs.out H0.out)
        clear HGd HBd HNo HYs
        go_wp2_with (fail)
        go_quiet (fail)
        go_upto_region 6 with (fail)
        have HI : InvX w g [(w.heap.size, Obj.cells #[.string nm, .int .i64 v, .string cd, .int .i64 p, .int .i64 a] 27)] (.string ty.s.nm) (.int .i64 ty.s.v) (.string ty.s.cd) (.int .i64 ty.s.p) (.int .i64 ty.s.a) (.bool ty.full) (.int .i64 ty.tries) (.bool ty.good) (.int .i64 1) (w1.drewN nq) :=
          ⟨(HQ.out nq).2.1, fun k hk => by rcases List.mem_singleton.1 hk with rfl; exact ⟨by show w.heap.size ≠ g; omega, (HQ.out nq).2.2⟩, _, _, _, _, _, _, _, _, (HQ.out nq).1.1⟩
        clear hg x0 x1 x2 x3 x4 x5 x6 x7 y0 y1 y2 y3 y4 y5 y6 y7 z
        generalize w1.drewN nq = w2 at *
        obtain ⟨z, f0, f1, f2, f3, f4, f5, f6, f7, c0, c1, c2, c3, c4, c5, c6, c7, _⟩ := invX_S HI
        obtain ⟨p0, p1, p2, p3, p4⟩ := cellsS (HI.2.1 _ (List.mem_singleton.2 rfl)).2
        go_region_held3 (fun W => W.cell? ⟨w.heap.size, 0, none⟩ = some (.string nm) ∧ W.cell? ⟨w.heap.size, 1, none⟩ = some (.int .i64 v) ∧ W.cell? ⟨w.heap.size, 2, none⟩ = some (.string cd) ∧ W.cell? ⟨w.heap.size, 3, none⟩ = some (.int .i64 p) ∧ W.cell? ⟨w.heap.size, 4, none⟩ = some (.int .i64 a) ∧ W.cell? ⟨g, 16, none⟩ = some (.int .i64 1) ∧ W.frozen? ⟨g, 0, none⟩ = false ∧ W.frozen? ⟨g, 1, none⟩ = false ∧ W.frozen? ⟨g, 2, none⟩ = false ∧ W.frozen? ⟨g, 3, none⟩ = false ∧ W.frozen? ⟨g, 4, none⟩ = false ∧ W.frozen? ⟨g, 5, none⟩ = false ∧ W.frozen? ⟨g, 6, none⟩ = false ∧ W.frozen? ⟨g, 7, none⟩ = false ∧ W.cell? ⟨g, 0, none⟩ = some (Image.cellAt W g 0) ∧ W.cell? ⟨g, 1, none⟩ = some (Image.cellAt W g 1) ∧ W.cell? ⟨g, 2, none⟩ = some (Image.cellAt W g 2) ∧ W.cell? ⟨g, 3, none⟩ = some (Image.cellAt W g 3) ∧ W.cell? ⟨g, 4, none⟩ = some (Image.cellAt W g 4) ∧ W.cell? ⟨g, 5, none⟩ = some (Image.cellAt W g 5) ∧ W.cell? ⟨g, 6, none⟩ = some (Image.cellAt W g 6) ∧ W.cell? ⟨g, 7, none⟩ = some (Image.cellAt W g 7) ∧ InvX w g [(w.heap.size, Obj.cells #[.string nm, .int .i64 v, .string cd, .int .i64 p, .int .i64 a] 27)] (.string ty.s.nm) (.int .i64 ty.s.v) (.string ty.s.cd) (.int .i64 ty.s.p) (.int .i64 ty.s.a) (.bool ty.full) (.int .i64 ty.tries) (.bool ty.good) (.int .i64 1) W)
          (exact invX_P (by with_reducible repeat (first | assumption | apply invX_drew | apply invX_eight)))
          (first | (go_at_call 91; refine (other9 _).mono ?_; rintro e w5 ⟨rfl, h5⟩; subst h5) | (go_at_call 88; refine (CL.out _).mono ?_; rintro e w5 ⟨rfl, hb5⟩; have hI5 : InvX w g [(w.heap.size, Obj.cells #[.string nm, .int .i64 v, .string cd, .int .i64 p, .int .i64 a] 27)] (.string ty.s.nm) (.int .i64 ty.s.v) (.string ty.s.cd) (.int .i64 ty.s.p) (.int .i64 ty.s.a) (.bool ty.full) (.int .i64 ty.tries) (.bool ty.good) (.int .i64 1) w5 := invX_below (by with_reducible repeat (first | assumption | apply invX_drew | apply invX_eight)) hb5; clear hb5; obtain ⟨p50, p51, p52, p53, p54, z5, f50, f51, f52, f53, f54, f55, f56, f57, c50, c51, c52, c53, c54, c55, c56, c57, _⟩ := invX_P hI5))
        all_goals
          go_wp2
          go_ret
          refine ⟨by rw [H0.out]; rfl, ⟨?_, HG1.out.2⟩, ?_⟩
          · rw [HN.out]
            try simp only [drew_heap]
            exact (invX_put (w0 := w) (ks := [(w.heap.size, Obj.cells #[.string nm, .int .i64 v, .string cd, .int .i64 p, .int .i64 a] 27)]) (y0 := (.string ty.s.nm)) (y1 := (.int .i64 ty.s.v)) (y2 := (.string ty.s.cd)) (y3 := (.int .i64 ty.s.p)) (y4 := (.int .i64 ty.s.a)) (y5 := (.bool ty.full)) (y6 := (.int .i64 ty.tries)) (y7 := (.bool ty.good)) (z := (.int .i64 1)) (by with_reducible repeat (first | assumption | apply invX_drew | apply invX_eight)) _ _ _ _ _ _ _ _).1
          · try simp only [drew_only]
            exact (invX_put (w0 := w) (ks := [(w.heap.size, Obj.cells #[.string nm, .int .i64 v, .string cd, .int .i64 p, .int .i64 a] 27)]) (y0 := (.string ty.s.nm)) (y1 := (.int .i64 ty.s.v)) (y2 := (.string ty.s.cd)) (y3 := (.int .i64 ty.s.p)) (y4 := (.int .i64 ty.s.a)) (y5 := (.bool ty.full)) (y6 := (.int .i64 ty.tries)) (y7 := (.bool ty.good)) (z := (.int .i64 1)) (by with_reducible repeat (first | assumption | apply invX_drew | apply invX_eight)) _ _ _ _ _ _ _ _).2
  · have HI := hide (HIm.out hE)
    have HN := hide (HNo.out (by rw [HI.out]; exact hE))
    have HX := hide (Image.errV_ne (T := 96) hE)
    rw [Image.errV_ne hE]
    clear hE
    go_wp2
    go_ret
    exact ⟨by rw [HI.out, HX.out]; rfl, by rw [HN.out]; exact HG1.out, Only.of_below HB1.out⟩
/-- As it is asked. -/
theorem putLaw : PutLaw Slt := by
  rintro p S t s w B ⟨g, rfl, rfl, h, hok, hx, hy⟩ hs hB
  refine (put_any g t s w B h hs).mono ?_
  rintro e w' ⟨rfl, h1, h2⟩
  have hz : szS (putT t s).x.s ∧ szS (putT t s).y.s := by
    unfold putT
    split
    · obtain ⟨tx, ty, r⟩ := t
      cases r
      · exact ⟨hx, hs⟩
      · exact ⟨hs, hy⟩
    · exact ⟨hx, hy⟩
  exact ⟨fun k => k = g, rfl, ⟨g, rfl, rfl, h1, ok_put hok s, hz.1, hz.2⟩, h2, fun b hb => Or.inl hb⟩

theorem info_slot : (Tryz.prog.info? 106).map (·.size) = some 8 := by kernel_rfl
theorem load_slot {w : World} {b : Nat} {c : Array Value} {fr : Nat × Nat} (h : w.heap[b]? = some (.cells c 106 fr)) (hs : c.size = 8) : (loadVar 106 ⟨b, 0, none⟩).run Tryz.prog w = .ok (.agg c) w :=
  run_loadVar_row w b _ _ c fr _ h Tryz.underlying106 rfl (by rw [info_slot, hs])
theorem results_slot {fn : Func} {p u : Tmp} (h : fn.results = #[.cell p 106, .tmp u]) (tmps : Array Value) (w : World) (b : Nat) (c : Array Value) (v : Value) (hp : tmps.getD p undef = .pointer (some ⟨b, 0, none⟩)) (hu : tmps.getD u undef = v)
    (hg : w.heap[b]? = some (.cells c 106)) (hs : c.size = 8) : (results fn tmps).run Tryz.prog w = .ok (.tuple #[.agg c, v]) w := by
  rw [results_cell_tmp h, hp, hu]
  simp [asAddr, load_slot hg hs, Result.andThen]
section
variable {W w : World} {R g i0 i1 i2 i3 i4 i5 i6 i7 : Nat} {v0 v1 v2 v3 v4 v5 v6 v7 : Value} {S : Nat → Prop}
theorem new8 (hR : w.heap.size ≤ R) (h : Only S w W) : Only S w ((((((((W.setCell ⟨R, i0, none⟩ v0).setCell ⟨R, i1, none⟩ v1).setCell ⟨R, i2, none⟩ v2).setCell ⟨R, i3, none⟩ v3).setCell ⟨R, i4, none⟩ v4).setCell ⟨R, i5, none⟩ v5).setCell ⟨R, i6, none⟩ v6).setCell ⟨R, i7, none⟩ v7) :=
  new1 hR (new1 hR (new1 hR (new1 hR (new1 hR (new1 hR (new1 hR (new1 hR h)))))))
end
set_option maxHeartbeats 1000000 in
theorem at_no (g : Nat) (i : Int) (w : World) (hi : i < 0 ∨ 2 ≤ i) :
    Calls Tryz.prog 48 #[.pointer (some ⟨g, 0, none⟩), .int .i64 i] w fun e w' => e = .returned (.tuple #[slA noSl, errV 96 1]) ∧ Below w.heap.size w w' := by
  have HB := hide (below_new w (.cells #[.string { data := #[] }, .int .i64 0, .string { data := #[] }, .int .i64 0, .int .i64 0, .bool false, .int .i64 0, .bool false] 106))
  have HR := hide (blk_new w (.cells #[.string { data := #[] }, .int .i64 0, .string { data := #[] }, .int .i64 0, .int .i64 0, .bool false, .int .i64 0, .bool false] 106))
  rcases Int.lt_or_le i 0 with h0 | h0
  · clear hi
    go_enter Tryz.func48, Tryz.ntmps48
    go_wp2
    refine bodyPost_ret (v := .tuple #[.agg #[.string { data := #[] }, .int .i64 0, .string { data := #[] }, .int .i64 0, .int .i64 0, .bool false, .int .i64 0, .bool false], .iface 96 (.int .i64 1)]) ?_ rfl ⟨rfl, ?_⟩
    · exact results_slot (p := 4) (u := 5) rfl _ _ w.heap.size _ _ rfl rfl HR.out rfl
    · exact HB.out
  · have h2 : 2 ≤ i := by omega
    have h3 : ¬ i < 0 := by omega
    clear hi h0
    go_enter Tryz.func48, Tryz.ntmps48
    go_wp2
    refine bodyPost_ret (v := .tuple #[.agg #[.string { data := #[] }, .int .i64 0, .string { data := #[] }, .int .i64 0, .int .i64 0, .bool false, .int .i64 0, .bool false], .iface 96 (.int .i64 1)]) ?_ rfl ⟨rfl, ?_⟩
    · exact results_slot (p := 4) (u := 5) rfl _ _ w.heap.size _ _ rfl rfl HR.out rfl
    · exact HB.out

set_option maxHeartbeats 2000000 in
theorem at_lo (g : Nat) (t : St) (w : World) (B : Nat) (h : PIs w B g t) (hz : szS t.x.s) :
    Calls Tryz.prog 48 #[.pointer (some ⟨g, 0, none⟩), .int .i64 0] w fun e w' => e = .returned (.tuple #[slA t.x, .nilIface]) ∧ Below w.heap.size w w' := by
  have hbA := below_new w (.cells #[.string { data := #[] }, .int .i64 0, .string { data := #[] }, .int .i64 0, .int .i64 0, .bool false, .int .i64 0, .bool false] 106)
  have hG := h.below hbA
  have hR := blk_new w (.cells #[.string { data := #[] }, .int .i64 0, .string { data := #[] }, .int .i64 0, .int .i64 0, .bool false, .int .i64 0, .bool false] 106)
  have hbB := below_on hbA (below_new _ (.cells #[.string t.x.s.nm, .int .i64 t.x.s.v, .string t.x.s.cd, .int .i64 t.x.s.p, .int .i64 t.x.s.a, .bool t.x.full, .int .i64 t.x.tries, .bool t.x.good] 106))
  have hR2 := blk_keep hR (.cells #[.string t.x.s.nm, .int .i64 t.x.s.v, .string t.x.s.cd, .int .i64 t.x.s.p, .int .i64 t.x.s.a, .bool t.x.full, .int .i64 t.x.tries, .bool t.x.good] 106)
  have hA2 := blk2 w (.cells #[.string { data := #[] }, .int .i64 0, .string { data := #[] }, .int .i64 0, .int .i64 0, .bool false, .int .i64 0, .bool false] 106) (.cells #[.string t.x.s.nm, .int .i64 t.x.s.v, .string t.x.s.cd, .int .i64 t.x.s.p, .int .i64 t.x.s.a, .bool t.x.full, .int .i64 t.x.tries, .bool t.x.good] 106)
  obtain ⟨⟨x0, x1, x2, x3, x4, x5, x6, x7⟩, ⟨y0, y1, y2, y3, y4, y5, y6, y7⟩, _⟩ := cells8 hG.1
  obtain ⟨a0, a1, a2, a3, a4, a5, a6, a7⟩ := cellsE hA2
  have CL := hide (fun W => clone_any t.x.s W hz)
  unfold sgA at CL
  unfold slA
  have HB := hide hbB
  have HR := hide hR2
  have HA := hide hA2
  clear h hz hbA hG hR hbB hR2 hA2
  go_enter Tryz.func48, Tryz.ntmps48
  go_wp2_with (fail)
  refine (CL.out _).mono ?_
  rintro e w1 ⟨rfl, hb1⟩
  have HB1 := hide (below_on HB.out hb1)
  have HA1 := hide (blk_below HA.out hb1)
  have HR1 := hide (blk_below HR.out hb1)
  clear hb1 HB HA HR CL x0 x1 x2 x3 x4 x5 x6 x7 y0 y1 y2 y3 y4 y5 y6 y7 a0 a1 a2 a3 a4 a5 a6 a7
  obtain ⟨a0, a1, a2, a3, a4, a5, a6, a7⟩ := cellsE HA1.out
  have f0 := at_free HA1.out 0
  have f1 := at_free HA1.out 1
  have f2 := at_free HA1.out 2
  have f3 := at_free HA1.out 3
  have f4 := at_free HA1.out 4
  have hlt := blk_lt HA1.out
  go_upto_region 5 with (fail)
  have HA2 := hide (r85 (v0 := .string t.x.s.nm) (v1 := .int .i64 t.x.s.v) (v2 := .string t.x.s.cd) (v3 := .int .i64 t.x.s.p) (v4 := .int .i64 t.x.s.a) HA1.out)
  have HR2 := hide (other5 (R := w.heap.size + 1) (i0 := 0) (i1 := 1) (i2 := 2) (i3 := 3) (i4 := 4) (v0 := .string t.x.s.nm) (v1 := .int .i64 t.x.s.v) (v2 := .string t.x.s.cd) (v3 := .int .i64 t.x.s.p) (v4 := .int .i64 t.x.s.a) (show w.heap.size ≠ w.heap.size + 1 by omega) HR1.out)
  have HO2 := hide (new5 (R := w.heap.size + 1) (i0 := 0) (i1 := 1) (i2 := 2) (i3 := 3) (i4 := 4) (v0 := .string t.x.s.nm) (v1 := .int .i64 t.x.s.v) (v2 := .string t.x.s.cd) (v3 := .int .i64 t.x.s.p) (v4 := .int .i64 t.x.s.a) (by omega) (Only.of_below (S := fun _ => False) HB1.out))
  clear a0 a1 a2 a3 a4 a5 a6 a7 f0 f1 f2 f3 f4 HA1 HR1 HB1 hlt
  generalize ((((w1.setCell ⟨w.heap.size + 1, 0, none⟩ (.string t.x.s.nm)).setCell ⟨w.heap.size + 1, 1, none⟩ (.int .i64 t.x.s.v)).setCell ⟨w.heap.size + 1, 2, none⟩ (.string t.x.s.cd)).setCell ⟨w.heap.size + 1, 3, none⟩ (.int .i64 t.x.s.p)).setCell ⟨w.heap.size + 1, 4, none⟩ (.int .i64 t.x.s.a) = w2 at *
  obtain ⟨a0, a1, a2, a3, a4, a5, a6, a7⟩ := cellsE HA2.out
  obtain ⟨r0, r1, r2, r3, r4, r5, r6, r7⟩ := cellsE HR2.out
  have q0 := at_free HR2.out 0
  have q1 := at_free HR2.out 1
  have q2 := at_free HR2.out 2
  have q3 := at_free HR2.out 3
  have q4 := at_free HR2.out 4
  have q5 := at_free HR2.out 5
  have q6 := at_free HR2.out 6
  have q7 := at_free HR2.out 7
  go_wp2
  refine bodyPost_ret (v := .tuple #[.agg #[.string t.x.s.nm, .int .i64 t.x.s.v, .string t.x.s.cd, .int .i64 t.x.s.p, .int .i64 t.x.s.a, .bool t.x.full, .int .i64 t.x.tries, .bool t.x.good], .nilIface]) ?_ rfl ⟨rfl, ?_⟩
  · exact results_slot (p := 4) (u := 5) rfl _ _ w.heap.size _ _ rfl rfl (r8 HR2.out) rfl
  · exact only_below (new8 (Nat.le_refl _) HO2.out)

set_option maxHeartbeats 2000000 in
theorem at_hi (g : Nat) (t : St) (w : World) (B : Nat) (h : PIs w B g t) (hz : szS t.y.s) :
    Calls Tryz.prog 48 #[.pointer (some ⟨g, 0, none⟩), .int .i64 1] w fun e w' => e = .returned (.tuple #[slA t.y, .nilIface]) ∧ Below w.heap.size w w' := by
  have hbA := below_new w (.cells #[.string { data := #[] }, .int .i64 0, .string { data := #[] }, .int .i64 0, .int .i64 0, .bool false, .int .i64 0, .bool false] 106)
  have hG := h.below hbA
  have hR := blk_new w (.cells #[.string { data := #[] }, .int .i64 0, .string { data := #[] }, .int .i64 0, .int .i64 0, .bool false, .int .i64 0, .bool false] 106)
  have hbB := below_on hbA (below_new _ (.cells #[.string t.y.s.nm, .int .i64 t.y.s.v, .string t.y.s.cd, .int .i64 t.y.s.p, .int .i64 t.y.s.a, .bool t.y.full, .int .i64 t.y.tries, .bool t.y.good] 106))
  have hR2 := blk_keep hR (.cells #[.string t.y.s.nm, .int .i64 t.y.s.v, .string t.y.s.cd, .int .i64 t.y.s.p, .int .i64 t.y.s.a, .bool t.y.full, .int .i64 t.y.tries, .bool t.y.good] 106)
  have hA2 := blk2 w (.cells #[.string { data := #[] }, .int .i64 0, .string { data := #[] }, .int .i64 0, .int .i64 0, .bool false, .int .i64 0, .bool false] 106) (.cells #[.string t.y.s.nm, .int .i64 t.y.s.v, .string t.y.s.cd, .int .i64 t.y.s.p, .int .i64 t.y.s.a, .bool t.y.full, .int .i64 t.y.tries, .bool t.y.good] 106)
  obtain ⟨⟨x0, x1, x2, x3, x4, x5, x6, x7⟩, ⟨y0, y1, y2, y3, y4, y5, y6, y7⟩, _⟩ := cells8 hG.1
  obtain ⟨a0, a1, a2, a3, a4, a5, a6, a7⟩ := cellsE hA2
  have CL := hide (fun W => clone_any t.y.s W hz)
  unfold sgA at CL
  unfold slA
  have HB := hide hbB
  have HR := hide hR2
  have HA := hide hA2
  clear h hz hbA hG hR hbB hR2 hA2
  go_enter Tryz.func48, Tryz.ntmps48
  go_wp2_with (fail)
  refine (CL.out _).mono ?_
  rintro e w1 ⟨rfl, hb1⟩
  have HB1 := hide (below_on HB.out hb1)
  have HA1 := hide (blk_below HA.out hb1)
  have HR1 := hide (blk_below HR.out hb1)
  clear hb1 HB HA HR CL x0 x1 x2 x3 x4 x5 x6 x7 y0 y1 y2 y3 y4 y5 y6 y7 a0 a1 a2 a3 a4 a5 a6 a7
  obtain ⟨a0, a1, a2, a3, a4, a5, a6, a7⟩ := cellsE HA1.out
  have f0 := at_free HA1.out 0
  have f1 := at_free HA1.out 1
  have f2 := at_free HA1.out 2
  have f3 := at_free HA1.out 3
  have f4 := at_free HA1.out 4
  have hlt := blk_lt HA1.out
  go_upto_region 5 with (fail)
  have HA2 := hide (r85 (v0 := .string t.y.s.nm) (v1 := .int .i64 t.y.s.v) (v2 := .string t.y.s.cd) (v3 := .int .i64 t.y.s.p) (v4 := .int .i64 t.y.s.a) HA1.out)
  have HR2 := hide (other5 (R := w.heap.size + 1) (i0 := 0) (i1 := 1) (i2 := 2) (i3 := 3) (i4 := 4) (v0 := .string t.y.s.nm) (v1 := .int .i64 t.y.s.v) (v2 := .string t.y.s.cd) (v3 := .int .i64 t.y.s.p) (v4 := .int .i64 t.y.s.a) (show w.heap.size ≠ w.heap.size + 1 by omega) HR1.out)
  have HO2 := hide (new5 (R := w.heap.size + 1) (i0 := 0) (i1 := 1) (i2 := 2) (i3 := 3) (i4 := 4) (v0 := .string t.y.s.nm) (v1 := .int .i64 t.y.s.v) (v2 := .string t.y.s.cd) (v3 := .int .i64 t.y.s.p) (v4 := .int .i64 t.y.s.a) (by omega) (Only.of_below (S := fun _ => False) HB1.out))
  clear a0 a1 a2 a3 a4 a5 a6 a7 f0 f1 f2 f3 f4 HA1 HR1 HB1 hlt
  generalize ((((w1.setCell ⟨w.heap.size + 1, 0, none⟩ (.string t.y.s.nm)).setCell ⟨w.heap.size + 1, 1, none⟩ (.int .i64 t.y.s.v)).setCell ⟨w.heap.size + 1, 2, none⟩ (.string t.y.s.cd)).setCell ⟨w.heap.size + 1, 3, none⟩ (.int .i64 t.y.s.p)).setCell ⟨w.heap.size + 1, 4, none⟩ (.int .i64 t.y.s.a) = w2 at *
  obtain ⟨a0, a1, a2, a3, a4, a5, a6, a7⟩ := cellsE HA2.out
  obtain ⟨r0, r1, r2, r3, r4, r5, r6, r7⟩ := cellsE HR2.out
  have q0 := at_free HR2.out 0
  have q1 := at_free HR2.out 1
  have q2 := at_free HR2.out 2
  have q3 := at_free HR2.out 3
  have q4 := at_free HR2.out 4
  have q5 := at_free HR2.out 5
  have q6 := at_free HR2.out 6
  have q7 := at_free HR2.out 7
  go_wp2
  refine bodyPost_ret (v := .tuple #[.agg #[.string t.y.s.nm, .int .i64 t.y.s.v, .string t.y.s.cd, .int .i64 t.y.s.p, .int .i64 t.y.s.a, .bool t.y.full, .int .i64 t.y.tries, .bool t.y.good], .nilIface]) ?_ rfl ⟨rfl, ?_⟩
  · exact results_slot (p := 4) (u := 5) rfl _ _ w.heap.size _ _ rfl rfl (r8 HR2.out) rfl
  · exact only_below (new8 (Nat.le_refl _) HO2.out)

/-- As it is asked. -/
theorem atLaw : AtLaw Slt := by
  rintro p S t i w B ⟨g, rfl, rfl, h, _, hx, hy⟩
  by_cases h0 : i = 0
  · subst h0
    exact at_lo g t w B h hx
  · by_cases h1 : i = 1
    · subst h1
      exact at_hi g t w B h hy
    · have e1 : atE i = 1 := by unfold atE; rw [if_neg (by omega)]
      have e2 : atL t i = noSl := by unfold atL; rw [if_neg h0, if_neg h1]
      rw [e1, e2]
      exact at_no g i w (by omega)
/-- All of it. -/
theorem laws : Laws Slt := ⟨core, goodLaw, startLaw, atLaw⟩
end Go.Proofs.YtojdaifnljghkabGreatDoor.Slot
