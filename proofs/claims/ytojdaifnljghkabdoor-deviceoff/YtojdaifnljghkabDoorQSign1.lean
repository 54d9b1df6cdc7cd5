/-
  Contracts of package sign's Make and Check over this translation: what each returns, and that memory that was there stays as it was.
-/
import Derived.Test.YtojdaifnljghkabDoorQKey3
import Derived.Test.YtojdaifnljghkabDoorQSignMath
import Derived.Test.YtojdaifnljghkabDoorPack1
namespace Go.Proofs.YtojdaifnljghkabDoor.M
/-- The cells of a signed image. -/
def sgnC (nm : ByteArray) (v : Int) (cd : ByteArray) (p a : Int) : Array Value := #[.string nm, .int .i64 v, .string cd, .int .i64 p, .int .i64 a]
theorem cells5 {w : World} {b : Nat} {x0 x1 x2 x3 x4 : Value} {t : TypeId} {fr : Nat × Nat} (h : w.heap[b]? = some (.cells #[x0, x1, x2, x3, x4] t fr)) :
    w.cell? ⟨b, 0, none⟩ = some x0 ∧ w.cell? ⟨b, 1, none⟩ = some x1 ∧ w.cell? ⟨b, 2, none⟩ = some x2 ∧ w.cell? ⟨b, 3, none⟩ = some x3 ∧ w.cell? ⟨b, 4, none⟩ = some x4 := by
  refine ⟨?_, ?_, ?_, ?_, ?_⟩ <;> rw [cell_of_row w b _ _ t fr h] <;> rfl
theorem free5 {w : World} {b : Nat} {c : Array Value} {t : TypeId} (h : w.heap[b]? = some (.cells c t)) :
    w.frozen? ⟨b, 0, none⟩ = false ∧ w.frozen? ⟨b, 1, none⟩ = false ∧ w.frozen? ⟨b, 2, none⟩ = false ∧ w.frozen? ⟨b, 3, none⟩ = false ∧ w.frozen? ⟨b, 4, none⟩ = false :=
  ⟨frozen_of_row w b 0 _ _ h, frozen_of_row w b 1 _ _ h, frozen_of_row w b 2 _ _ h, frozen_of_row w b 3 _ _ h, frozen_of_row w b 4 _ _ h⟩
theorem set5 {w : World} {b : Nat} {a0 a1 a2 a3 a4 x0 x1 x2 x3 x4 : Value} {t : TypeId} {fr : Nat × Nat} (hg : w.heap[b]? = some (.cells #[a0, a1, a2, a3, a4] t fr)) :
    ((((w.setCell ⟨b, 0, none⟩ x0).setCell ⟨b, 1, none⟩ x1).setCell ⟨b, 2, none⟩ x2).setCell ⟨b, 3, none⟩ x3).setCell ⟨b, 4, none⟩ x4 = w.setRow b #[x0, x1, x2, x3, x4] := by
  rw [setCell_eq_setRow w b 0 _ _ _ x0 hg]
  have h1 := setRow_heap w b _ (#[a0, a1, a2, a3, a4].setIfInBounds 0 x0) t fr hg
  rw [setCell_eq_setRow _ b 1 _ _ _ x1 h1, setRow_setRow]
  have h2 := setRow_heap w b _ ((#[a0, a1, a2, a3, a4].setIfInBounds 0 x0).setIfInBounds 1 x1) t fr hg
  rw [setCell_eq_setRow _ b 2 _ _ _ x2 h2, setRow_setRow]
  have h3 := setRow_heap w b _ (((#[a0, a1, a2, a3, a4].setIfInBounds 0 x0).setIfInBounds 1 x1).setIfInBounds 2 x2) t fr hg
  rw [setCell_eq_setRow _ b 3 _ _ _ x3 h3, setRow_setRow]
  have h4 := setRow_heap w b _ ((((#[a0, a1, a2, a3, a4].setIfInBounds 0 x0).setIfInBounds 1 x1).setIfInBounds 2 x2).setIfInBounds 3 x3) t fr hg
  rw [setCell_eq_setRow _ b 4 _ _ _ x4 h4, setRow_setRow]
  rfl
/-- A signed image that was made, in its cells. -/
def mkS (x k : Int) (nm : ByteArray) (v : Int) (cd : ByteArray) : Array Value :=
  if sgnE x k nm v cd = 0 then sgnC nm v cd (sigP x k (meaV nm v cd)) (sigA x k (meaV nm v cd)) else sgnC { data := #[] } 0 { data := #[] } 0 0
theorem mkS_ok {x k v : Int} {nm cd : ByteArray} (h : sgnE x k nm v cd = 0) : mkS x k nm v cd = sgnC nm v cd (sigP x k (meaV nm v cd)) (sigA x k (meaV nm v cd)) := if_pos h
theorem mkS_no {x k v : Int} {nm cd : ByteArray} (h : ¬ sgnE x k nm v cd = 0) : mkS x k nm v cd = sgnC { data := #[] } 0 { data := #[] } 0 0 := if_neg h
end Go.Proofs.YtojdaifnljghkabDoor.M
namespace Go.Proofs.YtojdaifnljghkabDoor.Sign
open Go.ChangeShapes Go.WideShapes Go.ChangeAt Go.RowKit
open Go.Proofs.YtojdaifnljghkabDoor.M Go.Proofs.YtojdaifnljghkabDoor.Key Go.Proofs.YtojdaifnljghkabDoor.Image
set_option linter.unusedVariables false

theorem info_signed : (Tryd.prog.info? 27).map (·.size) = some 5 := by kernel_rfl
theorem load_signed {w : World} {b : Nat} {c : Array Value} {fr : Nat × Nat} (h : w.heap[b]? = some (.cells c 27 fr)) (hs : c.size = 5) : (loadVar 27 ⟨b, 0, none⟩).run Tryd.prog w = .ok (.agg c) w :=
  run_loadVar_row w b _ _ c fr _ h Tryd.underlying27 rfl (by rw [info_signed, hs])
theorem results_signed {fn : Func} {p u : Tmp} (h : fn.results = #[.cell p 27, .tmp u]) (tmps : Array Value) (w : World) (b : Nat) (c : Array Value) (v : Value) (hp : tmps.getD p undef = .pointer (some ⟨b, 0, none⟩)) (hu : tmps.getD u undef = v)
    (hg : w.heap[b]? = some (.cells c 27)) (hs : c.size = 5) : (results fn tmps).run Tryd.prog w = .ok (.tuple #[.agg c, v]) w := by
  rw [results_cell_tmp h, hp, hu]
  simp [asAddr, load_signed hg hs, Result.andThen]

/-- Where the image and the seal lie that go into a signed image, where the answer will lie, and that all else is as it was. -/
def InvG (w0 : World) (P Q R : Nat) (nm : ByteArray) (v : Int) (cd : ByteArray) (p a : Int) (W : World) : Prop :=
  Below w0.heap.size w0 W ∧ (w0.heap.size ≤ R ∧ P ≠ R ∧ Q ≠ R) ∧ W.heap[P]? = some (.cells #[.string nm, .int .i64 v, .string cd] 23) ∧ W.heap[Q]? = some (.cells #[.int .i64 p, .int .i64 a] 25) ∧ ∃ x0 x1 x2 x3 x4, W.heap[R]? = some (.cells #[x0, x1, x2, x3, x4] 27)
section
variable {w0 W W' : World} {P Q R : Nat} {nm cd : ByteArray} {v p a : Int}
theorem invG_S (h : InvG w0 P Q R nm v cd p a W) : W.cell? ⟨P, 0, none⟩ = some (.string nm) ∧ W.cell? ⟨P, 1, none⟩ = some (.int .i64 v) ∧ W.cell? ⟨P, 2, none⟩ = some (.string cd) ∧ W.cell? ⟨Q, 0, none⟩ = some (.int .i64 p) ∧ W.cell? ⟨Q, 1, none⟩ = some (.int .i64 a)
    ∧ W.frozen? ⟨R, 0, none⟩ = false ∧ W.frozen? ⟨R, 1, none⟩ = false ∧ W.frozen? ⟨R, 2, none⟩ = false ∧ W.frozen? ⟨R, 3, none⟩ = false ∧ W.frozen? ⟨R, 4, none⟩ = false
    ∧ W.cell? ⟨R, 0, none⟩ = some (cellAt W R 0) ∧ W.cell? ⟨R, 1, none⟩ = some (cellAt W R 1) ∧ W.cell? ⟨R, 2, none⟩ = some (cellAt W R 2) ∧ W.cell? ⟨R, 3, none⟩ = some (cellAt W R 3) ∧ W.cell? ⟨R, 4, none⟩ = some (cellAt W R 4) ∧ InvG w0 P Q R nm v cd p a W := by
  have h' := h
  obtain ⟨h1, h2, h3, h5, x0, x1, x2, x3, x4, h4⟩ := h
  obtain ⟨c0, c1, c2⟩ := img_cells (nm := nm) (v := v) (cd := cd) h3
  obtain ⟨d0, d1⟩ := seal_cells h5
  obtain ⟨f0, f1, f2, f3, f4⟩ := free5 h4
  obtain ⟨e0, e1, e2, e3, e4⟩ := cells5 h4
  exact ⟨c0, c1, c2, d0, d1, f0, f1, f2, f3, f4, cellAt_of e0, cellAt_of e1, cellAt_of e2, cellAt_of e3, cellAt_of e4, h'⟩
theorem invG_drew (h : InvG w0 P Q R nm v cd p a W) : InvG w0 P Q R nm v cd p a W.drew := ⟨Below.drew h.1, h.2⟩
theorem invG_below (h : InvG w0 P Q R nm v cd p a W) (hb : Below W.heap.size W W') : InvG w0 P Q R nm v cd p a W' := by
  obtain ⟨h1, h2, h3, h5, x0, x1, x2, x3, x4, h4⟩ := h
  exact ⟨below_on h1 hb, h2, blk_below h3 hb, blk_below h5 hb, x0, x1, x2, x3, x4, blk_below h4 hb⟩
theorem invG_set (h : InvG w0 P Q R nm v cd p a W) (i : Nat) (u : Value) : InvG w0 P Q R nm v cd p a (W.setCell ⟨R, i, none⟩ u) := by
  obtain ⟨h1, h2, h3, h5, x0, x1, x2, x3, x4, h4⟩ := h
  rw [setCell_eq_setRow W R i _ _ _ u h4]
  refine ⟨below_setRow h1 h2.1 _, h2, by rw [setRow_other _ _ _ _ h2.2.1]; exact h3, by rw [setRow_other _ _ _ _ h2.2.2]; exact h5, ?_⟩
  have h6 := setRow_heap _ _ _ (#[x0, x1, x2, x3, x4].setIfInBounds i u) _ _ h4
  match i with
  | 0 => exact ⟨u, x1, x2, x3, x4, h6⟩
  | 1 => exact ⟨x0, u, x2, x3, x4, h6⟩
  | 2 => exact ⟨x0, x1, u, x3, x4, h6⟩
  | 3 => exact ⟨x0, x1, x2, u, x4, h6⟩
  | 4 => exact ⟨x0, x1, x2, x3, u, h6⟩
  | i + 5 => exact ⟨x0, x1, x2, x3, x4, h6⟩
theorem invG_put (h : InvG w0 P Q R nm v cd p a W) (y0 y1 y2 y3 y4 : Value) :
    (((((W.setCell ⟨R, 0, none⟩ y0).setCell ⟨R, 1, none⟩ y1).setCell ⟨R, 2, none⟩ y2).setCell ⟨R, 3, none⟩ y3).setCell ⟨R, 4, none⟩ y4).heap[R]? = some (.cells #[y0, y1, y2, y3, y4] 27) ∧ Below w0.heap.size w0 (((((W.setCell ⟨R, 0, none⟩ y0).setCell ⟨R, 1, none⟩ y1).setCell ⟨R, 2, none⟩ y2).setCell ⟨R, 3, none⟩ y3).setCell ⟨R, 4, none⟩ y4) := by
  obtain ⟨h1, h2, h3, h5, x0, x1, x2, x3, x4, h4⟩ := h
  rw [set5 h4]
  exact ⟨setRow_heap _ _ _ _ _ _ h4, below_setRow h1 h2.1 _⟩
end

end Go.Proofs.YtojdaifnljghkabDoor.Sign
