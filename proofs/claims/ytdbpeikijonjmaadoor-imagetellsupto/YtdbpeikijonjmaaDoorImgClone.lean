/-
  Contract of package image's Clone over this translation: it returns the same image, and memory that was there stays as it was.
-/
import Derived.Test.YtdbpeikijonjmaaDoorImg3
import Derived.Deep.WholeRow
import Derived.Laws.ResultCell
import Derived.Laws.CopyOwn
import Derived.Deep.DeepCutAuto
import Derived.Deep.RegionHeld3
namespace Go.Proofs.YtdbpeikijonjmaaDoor.Image
open Go.ChangeShapes Go.WideShapes Go.ChangeAt Go.RowKit
open Go.Proofs.YtdbpeikijonjmaaDoor.M
set_option linter.unusedVariables false

theorem info_img : (Tryd.prog.info? 23).map (·.size) = some 3 := by kernel_rfl
/-- An image out of its block. -/
theorem load_img {w : World} {b : Nat} {c : Array Value} {fr : Nat × Nat} (h : w.heap[b]? = some (.cells c 23 fr)) (hs : c.size = 3) : (loadVar 23 ⟨b, 0, none⟩).run Tryd.prog w = .ok (.agg c) w :=
  run_loadVar_row w b _ _ c fr _ h Tryd.underlying23 rfl (by rw [info_img, hs])
theorem three_set {w : World} {b : Nat} {a0 a1 a2 x y z : Value} {t : TypeId} {fr : Nat × Nat} (hg : w.heap[b]? = some (.cells #[a0, a1, a2] t fr)) :
    ((w.setCell ⟨b, 0, none⟩ x).setCell ⟨b, 1, none⟩ y).setCell ⟨b, 2, none⟩ z = w.setRow b #[x, y, z] := by
  rw [setCell_eq_setRow w b 0 _ _ _ x hg]
  have h1 := setRow_heap w b _ (#[a0, a1, a2].setIfInBounds 0 x) t fr hg
  rw [setCell_eq_setRow _ b 1 _ _ _ y h1, setRow_setRow]
  have h2 := setRow_heap w b _ ((#[a0, a1, a2].setIfInBounds 0 x).setIfInBounds 1 y) t fr hg
  rw [setCell_eq_setRow _ b 2 _ _ _ z h2, setRow_setRow]
  rfl
theorem img_free {w : World} {b : Nat} {c : Array Value} {t : TypeId} (h : w.heap[b]? = some (.cells c t)) :
    w.frozen? ⟨b, 0, none⟩ = false ∧ w.frozen? ⟨b, 1, none⟩ = false ∧ w.frozen? ⟨b, 2, none⟩ = false := ⟨frozen_of_row w b 0 _ _ h, frozen_of_row w b 1 _ _ h, frozen_of_row w b 2 _ _ h⟩
theorem res_alone {fn : Func} {p : Tmp} {ty : TypeId} (h : fn.results = #[.cell p ty]) (tmps : Array Value) (P : Program) (w : World) :
    (results fn tmps).run P w = ((asAddr (tmps.getD p undef)).run P w).andThen fun a w1 => (loadVar ty a).run P w1 := by
  simp only [results, h]
  simp [Sem.run_bind, Result.andThen]
theorem results_imgOne {fn : Func} {p : Tmp} (h : fn.results = #[.cell p 23]) (tmps : Array Value) (w : World) (b : Nat) (c : Array Value) (hp : tmps.getD p undef = .pointer (some ⟨b, 0, none⟩))
    (hg : w.heap[b]? = some (.cells c 23)) (hs : c.size = 3) : (results fn tmps).run Tryd.prog w = .ok (.agg c) w := by
  rw [res_alone h, hp]
  simp [asAddr, load_img hg hs, Result.andThen]

/-- What lies in a cell, whatever it is. -/
def cellAt (w : World) (b i : Nat) : Value := (w.cell? ⟨b, i, none⟩).getD undef
theorem cellAt_of {w : World} {b i : Nat} {v : Value} (h : w.cell? ⟨b, i, none⟩ = some v) : w.cell? ⟨b, i, none⟩ = some (cellAt w b i) := by unfold cellAt; rw [h]; rfl
/-- Where the image lies that came in, where the answer will lie, and that all else is as it was. -/
def InvC (w0 : World) (P R : Nat) (nm : ByteArray) (v : Int) (cd : ByteArray) (W : World) : Prop :=
  Below w0.heap.size w0 W ∧ (w0.heap.size ≤ P ∧ w0.heap.size ≤ R ∧ P ≠ R) ∧ W.heap[P]? = some (.cells #[.string nm, .int .i64 v, .string cd] 23) ∧ ∃ x y z, W.heap[R]? = some (.cells #[x, y, z] 23)
section
variable {w0 W W' : World} {P R : Nat} {nm cd : ByteArray} {v : Int}
theorem invC_S (h : InvC w0 P R nm v cd W) : W.cell? ⟨P, 0, none⟩ = some (.string nm) ∧ W.cell? ⟨P, 1, none⟩ = some (.int .i64 v) ∧ W.cell? ⟨P, 2, none⟩ = some (.string cd)
    ∧ W.frozen? ⟨R, 0, none⟩ = false ∧ W.frozen? ⟨R, 1, none⟩ = false ∧ W.frozen? ⟨R, 2, none⟩ = false
    ∧ W.cell? ⟨R, 0, none⟩ = some (cellAt W R 0) ∧ W.cell? ⟨R, 1, none⟩ = some (cellAt W R 1) ∧ W.cell? ⟨R, 2, none⟩ = some (cellAt W R 2) ∧ InvC w0 P R nm v cd W := by
  have h' := h
  obtain ⟨h1, h2, h3, x, y, z, h4⟩ := h
  obtain ⟨c0, c1, c2⟩ := img_cells (nm := nm) (v := v) (cd := cd) h3
  obtain ⟨f0, f1, f2⟩ := img_free h4
  exact ⟨c0, c1, c2, f0, f1, f2, cellAt_of (v := x) (by rw [cell_of_row W R _ _ _ _ h4]; rfl), cellAt_of (v := y) (by rw [cell_of_row W R _ _ _ _ h4]; rfl), cellAt_of (v := z) (by rw [cell_of_row W R _ _ _ _ h4]; rfl), h'⟩
theorem invC_drew (h : InvC w0 P R nm v cd W) : InvC w0 P R nm v cd W.drew := ⟨Below.drew h.1, h.2⟩
theorem invC_below (h : InvC w0 P R nm v cd W) (hb : Below W.heap.size W W') : InvC w0 P R nm v cd W' := by
  obtain ⟨h1, h2, h3, x, y, z, h4⟩ := h
  exact ⟨below_on h1 hb, h2, blk_below h3 hb, x, y, z, blk_below h4 hb⟩
theorem invC_set (h : InvC w0 P R nm v cd W) (i : Nat) (u : Value) : InvC w0 P R nm v cd (W.setCell ⟨R, i, none⟩ u) := by
  obtain ⟨h1, h2, h3, x, y, z, h4⟩ := h
  rw [setCell_eq_setRow W R i _ _ _ u h4]
  refine ⟨below_setRow h1 h2.2.1 _, h2, by rw [setRow_other _ _ _ _ h2.2.2]; exact h3, ?_⟩
  have h5 := setRow_heap _ _ _ (#[x, y, z].setIfInBounds i u) _ _ h4
  match i with
  | 0 => exact ⟨u, y, z, h5⟩
  | 1 => exact ⟨x, u, z, h5⟩
  | 2 => exact ⟨x, y, u, h5⟩
  | i + 3 => exact ⟨x, y, z, h5⟩
theorem invC_put (h : InvC w0 P R nm v cd W) (a b c : Value) : (((W.setCell ⟨R, 0, none⟩ a).setCell ⟨R, 1, none⟩ b).setCell ⟨R, 2, none⟩ c).heap[R]? = some (.cells #[a, b, c] 23) ∧ Below w0.heap.size w0 (((W.setCell ⟨R, 0, none⟩ a).setCell ⟨R, 1, none⟩ b).setCell ⟨R, 2, none⟩ c) := by
  obtain ⟨h1, h2, h3, x, y, z, h4⟩ := h
  rw [three_set h4]
  exact ⟨setRow_heap _ _ _ _ _ _ h4, below_setRow h1 h2.2.1 _⟩
end

set_option maxHeartbeats 4000000 in
theorem clones_any (nm cd : ByteArray) (v : Int) (w : World) (hn : nm.size ≤ 140737488351232) (hc : cd.size ≤ 140737488351232) :
    Calls Tryd.prog 27 #[.agg (imgC nm v cd)] w fun e w' => e = .returned (.agg (imgC nm v cd)) ∧ Below w.heap.size w w' := by
  have hI : InvC w w.heap.size (w.heap.size + 1) nm v cd ((w.alloc (.cells (imgC nm v cd) 23)).alloc (.cells (imgC { data := #[] } 0 { data := #[] }) 23)) :=
    ⟨below_on (below_new w _) (below_new _ _), ⟨Nat.le_refl _, by omega, by omega⟩, blk_keep (blk_new w _) _, _, _, _, blk_two w _ _⟩
  unfold imgC at hI ⊢
  obtain ⟨m0, m1, m2, f0, f1, f2, r0, r1, r2, _⟩ := invC_S hI
  go_enter Tryd.func27, Tryd.ntmps27
  go_wp2_with (fail)
  go_region_held3 (fun w' => w'.cell? ⟨w.heap.size, 0, none⟩ = some (.string nm) ∧ w'.cell? ⟨w.heap.size, 1, none⟩ = some (.int .i64 v) ∧ w'.cell? ⟨w.heap.size, 2, none⟩ = some (.string cd)
    ∧ w'.frozen? ⟨w.heap.size + 1, 0, none⟩ = false ∧ w'.frozen? ⟨w.heap.size + 1, 1, none⟩ = false ∧ w'.frozen? ⟨w.heap.size + 1, 2, none⟩ = false
    ∧ w'.cell? ⟨w.heap.size + 1, 0, none⟩ = some (cellAt w' (w.heap.size + 1) 0) ∧ w'.cell? ⟨w.heap.size + 1, 1, none⟩ = some (cellAt w' (w.heap.size + 1) 1) ∧ w'.cell? ⟨w.heap.size + 1, 2, none⟩ = some (cellAt w' (w.heap.size + 1) 2) ∧ InvC w w.heap.size (w.heap.size + 1) nm v cd w')
    (exact invC_S (by repeat (first | assumption | apply invC_drew | apply invC_set)))
    (first | (go_at_call 35; refine (clone_any _ _ ?_).mono ?_; omega; rintro e w5 ⟨rfl, hb5⟩; have hI5 : InvC w w.heap.size (w.heap.size + 1) nm v cd w5 := invC_below (by repeat (first | assumption | apply invC_drew | apply invC_set)) hb5; clear hb5; obtain ⟨m50, m51, m52, f50, f51, f52, r50, r51, r52, _⟩ := invC_S hI5))
  all_goals
    go_wp2
    refine bodyPost_ret (v := .agg #[.string nm, .int .i64 v, .string cd]) ?_ rfl ⟨rfl, ?_⟩
    · exact results_imgOne (p := 2) rfl _ _ (w.heap.size + 1) _ rfl (invC_put (by repeat (first | assumption | apply invC_drew | apply invC_set)) _ _ _).1 rfl
    · exact (invC_put (by repeat (first | assumption | apply invC_drew | apply invC_set)) _ _ _).2
end Go.Proofs.YtdbpeikijonjmaaDoor.Image
