/-
  Contracts of package slot's GoodOne and of package update's Do over this translation: what each returns, what becomes of the slots, and that all else stays as it was.
-/
import Derived.Test.YtojdaifnljghkabGreatDoorQUpdMay
import Derived.Test.YtojdaifnljghkabGreatDoorQSlotObj
namespace Go.Proofs.YtojdaifnljghkabGreatDoor.Slot
open Go.ChangeShapes Go.WideShapes Go.ChangeAt Go.RowKit
open Go.Proofs.YtojdaifnljghkabGreatDoor.M Go.Proofs.YtojdaifnljghkabGreatDoor.SlotRef
set_option linter.unusedVariables false

/-- While GoodOne looks at it, and lays its answer. -/
def KR (w : World) (B g R : Nat) (t : St) (W : World) : Prop := PIs W B g t ∧ Only (fun _ => False) w W ∧ (w.heap.size ≤ R ∧ g ≠ R) ∧ ∃ x0 x1 x2 x3 x4, W.heap[R]? = some (.cells #[x0, x1, x2, x3, x4] 27)
section Kr
variable {w W W' : World} {B g R : Nat} {t : St}
theorem kr_S (h : KR w B g R t W) :
    (W.cell? ⟨g, 0, none⟩ = some (.string t.x.s.nm) ∧ W.cell? ⟨g, 1, none⟩ = some (.int .i64 t.x.s.v) ∧ W.cell? ⟨g, 2, none⟩ = some (.string t.x.s.cd) ∧ W.cell? ⟨g, 3, none⟩ = some (.int .i64 t.x.s.p) ∧ W.cell? ⟨g, 4, none⟩ = some (.int .i64 t.x.s.a))
    ∧ (W.cell? ⟨g, 8, none⟩ = some (.string t.y.s.nm) ∧ W.cell? ⟨g, 9, none⟩ = some (.int .i64 t.y.s.v) ∧ W.cell? ⟨g, 10, none⟩ = some (.string t.y.s.cd) ∧ W.cell? ⟨g, 11, none⟩ = some (.int .i64 t.y.s.p) ∧ W.cell? ⟨g, 12, none⟩ = some (.int .i64 t.y.s.a))
    ∧ (W.frozen? ⟨R, 0, none⟩ = false ∧ W.frozen? ⟨R, 1, none⟩ = false ∧ W.frozen? ⟨R, 2, none⟩ = false ∧ W.frozen? ⟨R, 3, none⟩ = false ∧ W.frozen? ⟨R, 4, none⟩ = false)
    ∧ (W.cell? ⟨R, 0, none⟩ = some (Image.cellAt W R 0) ∧ W.cell? ⟨R, 1, none⟩ = some (Image.cellAt W R 1) ∧ W.cell? ⟨R, 2, none⟩ = some (Image.cellAt W R 2) ∧ W.cell? ⟨R, 3, none⟩ = some (Image.cellAt W R 3) ∧ W.cell? ⟨R, 4, none⟩ = some (Image.cellAt W R 4))
    ∧ KR w B g R t W := by
  have h' := h
  obtain ⟨h1, h2, h3, x0, x1, x2, x3, x4, h4⟩ := h
  obtain ⟨⟨a0, a1, a2, a3, a4, _⟩, ⟨b0, b1, b2, b3, b4, _⟩, _⟩ := cells8 h1.1
  obtain ⟨e0, e1, e2, e3, e4⟩ := cellsS h4
  exact ⟨⟨a0, a1, a2, a3, a4⟩, ⟨b0, b1, b2, b3, b4⟩, ⟨at_free h4 0, at_free h4 1, at_free h4 2, at_free h4 3, at_free h4 4⟩, ⟨Image.cellAt_of e0, Image.cellAt_of e1, Image.cellAt_of e2, Image.cellAt_of e3, Image.cellAt_of e4⟩, h'⟩
theorem kr_drew (h : KR w B g R t W) : KR w B g R t W.drew := ⟨h.1, h.2⟩
theorem kr_below (h : KR w B g R t W) (hb : Below W.heap.size W W') : KR w B g R t W' := by
  obtain ⟨h1, h2, h3, x0, x1, x2, x3, x4, h4⟩ := h
  exact ⟨h1.below hb, h2.after hb, h3, x0, x1, x2, x3, x4, blk_below h4 hb⟩
theorem kr_put (h : KR w B g R t W) (u0 u1 u2 u3 u4 : Value) : (((((W.setCell ⟨R, 0, none⟩ u0).setCell ⟨R, 1, none⟩ u1).setCell ⟨R, 2, none⟩ u2).setCell ⟨R, 3, none⟩ u3).setCell ⟨R, 4, none⟩ u4).heap[R]? = some (.cells #[u0, u1, u2, u3, u4] 27) ∧ Only (fun _ => False) w (((((W.setCell ⟨R, 0, none⟩ u0).setCell ⟨R, 1, none⟩ u1).setCell ⟨R, 2, none⟩ u2).setCell ⟨R, 3, none⟩ u3).setCell ⟨R, 4, none⟩ u4) := by
  obtain ⟨h1, h2, h3, x0, x1, x2, x3, x4, h4⟩ := h
  exact ⟨r5 h4, new5 h3.1 h2⟩
theorem kr_five {u0 u1 u2 u3 u4 : Value} (h : KR w B g R t W) : KR w B g R t (((((W.setCell ⟨R, 0, none⟩ u0).setCell ⟨R, 1, none⟩ u1).setCell ⟨R, 2, none⟩ u2).setCell ⟨R, 3, none⟩ u3).setCell ⟨R, 4, none⟩ u4) :=
  ⟨⟨other5 h.2.2.1.2 h.1.1, h.1.2⟩, (kr_put h _ _ _ _ _).2, h.2.2.1, _, _, _, _, _, (kr_put h _ _ _ _ _).1⟩
end Kr

set_option maxHeartbeats 4000000 in
theorem goodone_any (g : Nat) (t : St) (w : World) (B : Nat) (h : PIs w B g t) (hx : szS t.x.s) (hy : szS t.y.s) :
    Calls Tryz.prog 96 #[.pointer (some ⟨g, 0, none⟩)] w fun e w' => e = .returned (sgA (safeS t)) ∧ Below w.heap.size w w' := by
  have hbA := below_new w (.cells #[.string { data := #[] }, .int .i64 0, .string { data := #[] }, .int .i64 0, .int .i64 0] 27)
  have hgl := blk_lt h.1
  have hK : KR w B g w.heap.size t (w.alloc (.cells #[.string { data := #[] }, .int .i64 0, .string { data := #[] }, .int .i64 0, .int .i64 0] 27)) :=
    ⟨h.below hbA, Only.of_below hbA, ⟨Nat.le_refl _, by omega⟩, _, _, _, _, _, blk_new w _⟩
  have SF := hide (fun (W : World) (k : KR w B g w.heap.size t W) => isgood_any g t W B k.1)
  have CX := hide (fun W => clone_any t.x.s W hx)
  have CY := hide (fun W => clone_any t.y.s W hy)
  unfold sgA at CX CY
  have HE := hide (show safeS t = (t.at (safeT t)).s from rfl)
  clear h hbA hgl hx hy
  generalize safeT t = q at *
  obtain ⟨⟨x0, x1, x2, x3, x4⟩, ⟨y0, y1, y2, y3, y4⟩, ⟨f0, f1, f2, f3, f4⟩, ⟨c0, c1, c2, c3, c4⟩, _⟩ := kr_S hK
  cases q
  · simp only [St.at] at HE
    simp only [idx] at SF
    go_enter Tryz.func96, Tryz.ntmps96
    go_wp2_with (fail)
    go_region_held3 (fun W => (W.cell? ⟨g, 0, none⟩ = some (.string t.x.s.nm) ∧ W.cell? ⟨g, 1, none⟩ = some (.int .i64 t.x.s.v) ∧ W.cell? ⟨g, 2, none⟩ = some (.string t.x.s.cd) ∧ W.cell? ⟨g, 3, none⟩ = some (.int .i64 t.x.s.p) ∧ W.cell? ⟨g, 4, none⟩ = some (.int .i64 t.x.s.a))
      ∧ (W.cell? ⟨g, 8, none⟩ = some (.string t.y.s.nm) ∧ W.cell? ⟨g, 9, none⟩ = some (.int .i64 t.y.s.v) ∧ W.cell? ⟨g, 10, none⟩ = some (.string t.y.s.cd) ∧ W.cell? ⟨g, 11, none⟩ = some (.int .i64 t.y.s.p) ∧ W.cell? ⟨g, 12, none⟩ = some (.int .i64 t.y.s.a))
      ∧ (W.frozen? ⟨w.heap.size, 0, none⟩ = false ∧ W.frozen? ⟨w.heap.size, 1, none⟩ = false ∧ W.frozen? ⟨w.heap.size, 2, none⟩ = false ∧ W.frozen? ⟨w.heap.size, 3, none⟩ = false ∧ W.frozen? ⟨w.heap.size, 4, none⟩ = false)
      ∧ (W.cell? ⟨w.heap.size, 0, none⟩ = some (Image.cellAt W w.heap.size 0) ∧ W.cell? ⟨w.heap.size, 1, none⟩ = some (Image.cellAt W w.heap.size 1) ∧ W.cell? ⟨w.heap.size, 2, none⟩ = some (Image.cellAt W w.heap.size 2) ∧ W.cell? ⟨w.heap.size, 3, none⟩ = some (Image.cellAt W w.heap.size 3) ∧ W.cell? ⟨w.heap.size, 4, none⟩ = some (Image.cellAt W w.heap.size 4))
      ∧ KR w B g w.heap.size t W)
      (exact kr_S (by with_reducible repeat (first | assumption | apply kr_drew | apply kr_five)))
      (first | (go_at_call 89; refine (SF.out _ (by with_reducible repeat (first | assumption | apply kr_drew | apply kr_five))).mono ?_; rintro e w5 ⟨rfl, hb5⟩; have hK5 : KR w B g w.heap.size t w5 := kr_below (by with_reducible repeat (first | assumption | apply kr_drew | apply kr_five)) hb5; clear hb5; obtain ⟨⟨x50, x51, x52, x53, x54⟩, ⟨y50, y51, y52, y53, y54⟩, ⟨f50, f51, f52, f53, f54⟩, ⟨c50, c51, c52, c53, c54⟩, _⟩ := kr_S hK5) | (go_at_call 88; refine (CX.out _).mono ?_; rintro e w6 ⟨rfl, hb6⟩; have hK6 : KR w B g w.heap.size t w6 := kr_below (by with_reducible repeat (first | assumption | apply kr_drew | apply kr_five)) hb6; clear hb6; obtain ⟨⟨x60, x61, x62, x63, x64⟩, ⟨y60, y61, y62, y63, y64⟩, ⟨f60, f61, f62, f63, f64⟩, ⟨c60, c61, c62, c63, c64⟩, _⟩ := kr_S hK6))
    all_goals
      go_wp2
      refine bodyPost_ret (v := sgA t.x.s) ?_ rfl ⟨by rw [HE.out], ?_⟩
      · exact results_sg (p := 2) rfl _ _ w.heap.size _ rfl (kr_put (by with_reducible repeat (first | assumption | apply kr_drew | apply kr_five)) _ _ _ _ _).1 rfl
      · exact only_below (kr_put (by with_reducible repeat (first | assumption | apply kr_drew | apply kr_five)) _ _ _ _ _).2
  · simp only [St.at] at HE
    simp only [idx] at SF
    go_enter Tryz.func96, Tryz.ntmps96
    go_wp2_with (fail)
    go_region_held3 (fun W => (W.cell? ⟨g, 0, none⟩ = some (.string t.x.s.nm) ∧ W.cell? ⟨g, 1, none⟩ = some (.int .i64 t.x.s.v) ∧ W.cell? ⟨g, 2, none⟩ = some (.string t.x.s.cd) ∧ W.cell? ⟨g, 3, none⟩ = some (.int .i64 t.x.s.p) ∧ W.cell? ⟨g, 4, none⟩ = some (.int .i64 t.x.s.a))
      ∧ (W.cell? ⟨g, 8, none⟩ = some (.string t.y.s.nm) ∧ W.cell? ⟨g, 9, none⟩ = some (.int .i64 t.y.s.v) ∧ W.cell? ⟨g, 10, none⟩ = some (.string t.y.s.cd) ∧ W.cell? ⟨g, 11, none⟩ = some (.int .i64 t.y.s.p) ∧ W.cell? ⟨g, 12, none⟩ = some (.int .i64 t.y.s.a))
      ∧ (W.frozen? ⟨w.heap.size, 0, none⟩ = false ∧ W.frozen? ⟨w.heap.size, 1, none⟩ = false ∧ W.frozen? ⟨w.heap.size, 2, none⟩ = false ∧ W.frozen? ⟨w.heap.size, 3, none⟩ = false ∧ W.frozen? ⟨w.heap.size, 4, none⟩ = false)
      ∧ (W.cell? ⟨w.heap.size, 0, none⟩ = some (Image.cellAt W w.heap.size 0) ∧ W.cell? ⟨w.heap.size, 1, none⟩ = some (Image.cellAt W w.heap.size 1) ∧ W.cell? ⟨w.heap.size, 2, none⟩ = some (Image.cellAt W w.heap.size 2) ∧ W.cell? ⟨w.heap.size, 3, none⟩ = some (Image.cellAt W w.heap.size 3) ∧ W.cell? ⟨w.heap.size, 4, none⟩ = some (Image.cellAt W w.heap.size 4))
      ∧ KR w B g w.heap.size t W)
      (exact kr_S (by with_reducible repeat (first | assumption | apply kr_drew | apply kr_five)))
      (first | (go_at_call 89; refine (SF.out _ (by with_reducible repeat (first | assumption | apply kr_drew | apply kr_five))).mono ?_; rintro e w5 ⟨rfl, hb5⟩; have hK5 : KR w B g w.heap.size t w5 := kr_below (by with_reducible repeat (first | assumption | apply kr_drew | apply kr_five)) hb5; clear hb5; obtain ⟨⟨x50, x51, x52, x53, x54⟩, ⟨y50, y51, y52, y53, y54⟩, ⟨f50, f51, f52, f53, f54⟩, ⟨c50, c51, c52, c53, c54⟩, _⟩ := kr_S hK5) | (go_at_call 88; refine (CY.out _).mono ?_; rintro e w6 ⟨rfl, hb6⟩; have hK6 : KR w B g w.heap.size t w6 := kr_below (by with_reducible repeat (first | assumption | apply kr_drew | apply kr_five)) hb6; clear hb6; obtain ⟨⟨x60, x61, x62, x63, x64⟩, ⟨y60, y61, y62, y63, y64⟩, ⟨f60, f61, f62, f63, f64⟩, ⟨c60, c61, c62, c63, c64⟩, _⟩ := kr_S hK6))
    all_goals
      go_wp2
      refine bodyPost_ret (v := sgA t.y.s) ?_ rfl ⟨by rw [HE.out], ?_⟩
      · exact results_sg (p := 2) rfl _ _ w.heap.size _ rfl (kr_put (by with_reducible repeat (first | assumption | apply kr_drew | apply kr_five)) _ _ _ _ _).1 rfl
      · exact only_below (kr_put (by with_reducible repeat (first | assumption | apply kr_drew | apply kr_five)) _ _ _ _ _).2
end Go.Proofs.YtojdaifnljghkabGreatDoor.Slot
namespace Go.Proofs.YtojdaifnljghkabGreatDoor.Update
open Go.ChangeShapes Go.WideShapes Go.ChangeAt Go.RowKit
open Go.Proofs.YtojdaifnljghkabGreatDoor.M
set_option linter.unusedVariables false

theorem szT_of {W : World} {B : Nat} {q : Value} {T : Nat → Prop} {t : St} (h : Slot.Slt W B q T t) : szT t := by
  obtain ⟨g, _, _, _, _, hx, hy⟩ := h
  exact ⟨hx, hy⟩
/-- The image that is good, as the slots tell it. -/
theorem one_any (q : Value) (T : Nat → Prop) (t : St) (w : World) (B : Nat) (h : Slot.Slt w B q T t) :
    Calls Tryz.prog 96 #[q] w fun e w' => e = .returned (sgA (safeS t)) ∧ Below w.heap.size w w' := by
  obtain ⟨g, rfl, rfl, h, _, hx, hy⟩ := h
  exact Slot.goodone_any g t w B h hx hy

/-- While Do asks: all that was there is as it was, the update's image lies where it was laid. -/
def DI (w : World) (B R : Nat) (root : Int) (a : Option Addr) (l : List (Int × Int × Int)) (p : Value) (S : Nat → Prop) (f : ByteArray → Int) (k : Nat) (q : Value) (T : Nat → Prop) (t : St) (nm : ByteArray) (v : Int) (cd : ByteArray) (pp aa : Int) (W : World) : Prop :=
  Below w.heap.size w W ∧ RRow 3 certV W a l ∧ Image.Has W ∧ Count.Cnt W B p S f k ∧ Slot.Slt W B q T t ∧ W.heap[R]? = some (.cells #[.string nm, .int .i64 v, .string cd, .int .i64 pp, .int .i64 aa] 27)
section Di
variable {w W W' : World} {B R : Nat} {root : Int} {a : Option Addr} {l : List (Int × Int × Int)} {p : Value} {S : Nat → Prop} {f : ByteArray → Int} {k : Nat} {q : Value} {T : Nat → Prop} {t : St} {nm cd : ByteArray} {v pp aa : Int}
theorem di_S (h : DI w B R root a l p S f k q T t nm v cd pp aa W) : (W.cell? ⟨R, 0, none⟩ = some (.string nm) ∧ W.cell? ⟨R, 1, none⟩ = some (.int .i64 v) ∧ W.cell? ⟨R, 2, none⟩ = some (.string cd) ∧ W.cell? ⟨R, 3, none⟩ = some (.int .i64 pp) ∧ W.cell? ⟨R, 4, none⟩ = some (.int .i64 aa)) ∧ DI w B R root a l p S f k q T t nm v cd pp aa W := ⟨quin_cells h.2.2.2.2.2, h⟩
theorem di_below (h : DI w B R root a l p S f k q T t nm v cd pp aa W) (hb : Below W.heap.size W W') : DI w B R root a l p S f k q T t nm v cd pp aa W' :=
  ⟨below_on h.1 hb, h.2.1.below hb, h.2.2.1.below hb, Count.core.below h.2.2.2.1 hb, Slot.core.below h.2.2.2.2.1 hb, blk_below h.2.2.2.2.2 hb⟩
theorem di_drew (h : DI w B R root a l p S f k q T t nm v cd pp aa W) : DI w B R root a l p S f k q T t nm v cd pp aa W.drew := di_below h (Below.drew (Below.refl _ _))
end Di

set_option maxHeartbeats 4000000 in
theorem doLaw : DoLaw Count.Cnt Slot.Slt := by
  intro root a l n cap p S f k q T t next w B hn hm hr hh hc hs hzt hz hB
  have UE := hide (do_ok (root := root) (l := l) (f := f) (t := t) (next := next))
  have UN := hide (do_no (root := root) (l := l) (f := f) (t := t) (next := next))
  have GO := hide (fun W h => one_any q T t W B h)
  have MY := hide (fun W h1 h2 h3 => mayLaw root a l n cap p S f k (safeS t) next W B hn hm h1 h2 h3 (hzt.at _) hz)
  have PU := hide (fun W h h2 => Slot.putLaw q T t next W B h hz h2)
  generalize doE root l f t next = de at *
  generalize doT root l f t next = dt at *
  generalize updE root l f (safeS t) next = ue at *
  generalize putE t next = pe at *
  generalize putT t next = pt at *
  generalize safeS t = now at *
  obtain ⟨nm, v, cd, pp, aa⟩ := next
  obtain ⟨onm, ov, ocd, opp, oaa⟩ := now
  unfold sgA at GO MY PU ⊢
  simp only [] at GO MY PU
  have hb0 := below_new w (.cells #[.string nm, .int .i64 v, .string cd, .int .i64 pp, .int .i64 aa] 27)
  have hD : DI w B w.heap.size root a l p S f k q T t nm v cd pp aa (w.alloc (.cells #[.string nm, .int .i64 v, .string cd, .int .i64 pp, .int .i64 aa] 27)) :=
    ⟨hb0, hr.below hb0, hh.below hb0, Count.core.below hc hb0, Slot.core.below hs hb0, blk_new w _⟩
  have GO1 := hide (fun (W : World) (h : DI w B w.heap.size root a l p S f k q T t nm v cd pp aa W) => GO.out W h.2.2.2.2.1)
  have MY1 := hide (fun (W : World) (h : DI w B w.heap.size root a l p S f k q T t nm v cd pp aa W) => MY.out W h.2.1 h.2.2.1 h.2.2.2.1)
  clear GO MY
  have HBB := hide hB
  have HT := hide (fun b hb => (Slot.core.has hs b hb).2)
  clear hb0 hn hm hr hh hc hs hzt hz hB
  obtain ⟨⟨c0, c1, c2, c3, c4⟩, _⟩ := di_S hD
  go_enter Tryz.func57, Tryz.ntmps57
  go_wp2_with (fail)
  go_region_held3 (fun W => (W.cell? ⟨w.heap.size, 0, none⟩ = some (.string nm) ∧ W.cell? ⟨w.heap.size, 1, none⟩ = some (.int .i64 v) ∧ W.cell? ⟨w.heap.size, 2, none⟩ = some (.string cd) ∧ W.cell? ⟨w.heap.size, 3, none⟩ = some (.int .i64 pp) ∧ W.cell? ⟨w.heap.size, 4, none⟩ = some (.int .i64 aa)) ∧ DI w B w.heap.size root a l p S f k q T t nm v cd pp aa W)
    (exact di_S (by with_reducible repeat (first | assumption | apply di_drew)))
    (first | (go_at_call 96; refine (GO1.out _ (by with_reducible repeat (first | assumption | apply di_drew))).mono ?_; rintro e w5 ⟨rfl, hb5⟩; have hD5 : DI w B w.heap.size root a l p S f k q T t nm v cd pp aa w5 := di_below (by with_reducible repeat (first | assumption | apply di_drew)) hb5; clear hb5; obtain ⟨⟨c50, c51, c52, c53, c54⟩, _⟩ := di_S hD5) | (go_at_call 95; refine (MY1.out _ (by with_reducible repeat (first | assumption | apply di_drew))).mono ?_; rintro e w6 ⟨rfl, hb6⟩; have hD6 : DI w B w.heap.size root a l p S f k q T t nm v cd pp aa w6 := di_below (by with_reducible repeat (first | assumption | apply di_drew)) hb6; clear hb6; obtain ⟨⟨c60, c61, c62, c63, c64⟩, _⟩ := di_S hD6))
  all_goals
    by_cases hE : ue = 0
    · subst hE
      have E := hide (UE.out rfl)
      rw [errV_zero]
      go_wp2_with (fail)
      refine (PU.out _ hD6.2.2.2.2.1 (Nat.le_trans HBB.out hD6.1.size)).mono ?_
      rintro e w7 ⟨T', rfl, hs7, ho7, ht7⟩
      have HO7 := hide ((Only.of_below (S := T) hD6.1).trans ho7 (fun _ _ h => h))
      have HS7 := hide hs7
      have HT7 := hide (fun b hb => (ht7 b hb).imp id (fun h => Nat.le_trans hD6.1.size h))
      clear hs7 ho7 ht7
      go_wp2
      go_ret
      exact ⟨T', by rw [E.out.1]; rfl, by rw [E.out.2]; exact HS7.out, HO7.out, HT7.out⟩
    · have E := hide (UN.out hE)
      have HX := hide (Image.errV_ne (T := 96) hE)
      rw [Image.errV_ne hE]
      clear hE
      go_wp2
      go_ret
      exact ⟨T, by rw [E.out.1, HX.out]; rfl, by rw [E.out.2]; exact hD6.2.2.2.2.1, Only.of_below hD6.1, fun b hb => Or.inl hb⟩
end Go.Proofs.YtojdaifnljghkabGreatDoor.Update
