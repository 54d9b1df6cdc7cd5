/-
  Contracts of package sign's Make and Check over this translation: what each returns, and that memory that was there stays as it was.
-/
import Derived.Test.YtojdaifnljghkaaDoorKey3
import Derived.Test.YtojdaifnljghkaaDoorSignMath
import Derived.Test.YtojdaifnljghkaaDoorImgClone
namespace Go.Proofs.YtojdaifnljghkaaDoor.M
/-- The cells of a signed image. -/
def sgnC (nm : ByteArray) (v : Int) (cd : ByteArray) (p a : Int) : Array Value := #[.string nm, .int .i64 v, .string cd, .int .i64 p, .int .i64 a]
theorem cells5 {w : World} {b : Nat} {x0 x1 x2 x3 x4 : Value} {t : TypeId} {fr : Nat × Nat} (h : w.heap[b]? = some (.cells #[x0, x1, x2, x3, x4] t fr)) :
    w.cell? ⟨b, 0, none⟩ = some x0 ∧ w.cell? ⟨b, 1, none⟩ = some x1 ∧ w.cell? ⟨b, 2, none⟩ = some x2 ∧ w.cell? ⟨b, 3, none⟩ = some x3 ∧ w.cell? ⟨b, 4, none⟩ = some x4 := by
  refine ⟨?_, ?_, ?_, ?_, ?_⟩ <;> rw [cell_of_row w b _ _ t fr h] <;> rfl
theorem free5 {w : World} {b : Nat} {c : Array Value} {t : TypeId} (h : w.heap[b]? = some (.cells c t)) :
    w.frozen? ⟨b, 0, none⟩ = false ∧ w.frozen? ⟨b, 1, none⟩ = false ∧ w.frozen? ⟨b, 2, none⟩ = false ∧ w.frozen? ⟨b, 3, none⟩ = false ∧ w.frozen? ⟨b, 4, none⟩ = false :=
  ⟨frozen_of_row w b 0 _ _ h, frozen_of_row w b 1 _ _ h, frozen_of_row w b 2 _ _ h, frozen_of_row w b 3 _ _ h, frozen_of_row w b 4 _ _ h⟩
theorem set5 {w : World} {b : Nat} {a0 a1 a2 a3 a4 x0 x1 x2 x3 x4 : Value} {t : TypeId} {fr : Nat × Nat} (hg : w.heap[b]? = some (.cells #[a0, a1, a2, a3, a4] t fr)) :
    ((((w.setCell ⟨b, 0, none⟩ x0).setCell ⟨b, 1, none⟩ x1).setCell ⟨b, 2, none⟩ x2).setCell ⟨b, 3, none⟩ x3).setCell ⟨b, 4, none⟩ x4 = w.setRow b #[x0, x1, x2, x3, x4] := by
  rw [setCell_eq_setRow w b 0 _ _ _ x0 hg]
  have h1 := setRow_heap w b _ (#[a0, a1, a2, a3, a4].setIfInBounds 0 x0) t fr hg
  rw [setCell_eq_setRow _ b 1 _ _ _ x1 h1, setRow_setRow]
  have h2 := setRow_heap w b _ ((#[a0, a1, a2, a3, a4].setIfInBounds 0 x0).setIfInBounds 1 x1) t fr hg
  rw [setCell_eq_setRow _ b 2 _ _ _ x2 h2, setRow_setRow]
  have h3 := setRow_heap w b _ (((#[a0, a1, a2, a3, a4].setIfInBounds 0 x0).setIfInBounds 1 x1).setIfInBounds 2 x2) t fr hg
  rw [setCell_eq_setRow _ b 3 _ _ _ x3 h3, setRow_setRow]
  have h4 := setRow_heap w b _ ((((#[a0, a1, a2, a3, a4].setIfInBounds 0 x0).setIfInBounds 1 x1).setIfInBounds 2 x2).setIfInBounds 3 x3) t fr hg
  rw [setCell_eq_setRow _ b 4 _ _ _ x4 h4, setRow_setRow]
  rfl
/-- A signed image that was made, in its cells. -/
def mkS (x k : Int) (nm : ByteArray) (v : Int) (cd : ByteArray) : Array Value :=
  if sgnE x k nm v cd = 0 then sgnC nm v cd (sigP x k (meaV nm v cd)) (sigA x k (meaV nm v cd)) else sgnC { data := #[] } 0 { data := #[] } 0 0
theorem mkS_ok {x k v : Int} {nm cd : ByteArray} (h : sgnE x k nm v cd = 0) : mkS x k nm v cd = sgnC nm v cd (sigP x k (meaV nm v cd)) (sigA x k (meaV nm v cd)) := if_pos h
theorem mkS_no {x k v : Int} {nm cd : ByteArray} (h : ¬ sgnE x k nm v cd = 0) : mkS x k nm v cd = sgnC { data := #[] } 0 { data := #[] } 0 0 := if_neg h
end Go.Proofs.YtojdaifnljghkaaDoor.M
namespace Go.Proofs.YtojdaifnljghkaaDoor.Sign
open Go.ChangeShapes Go.WideShapes Go.ChangeAt Go.RowKit
open Go.Proofs.YtojdaifnljghkaaDoor.M Go.Proofs.YtojdaifnljghkaaDoor.Key Go.Proofs.YtojdaifnljghkaaDoor.Image
set_option linter.unusedVariables false

theorem info_signed : (Tryd.prog.info? 52).map (·.size) = some 5 := by kernel_rfl
theorem load_signed {w : World} {b : Nat} {c : Array Value} {fr : Nat × Nat} (h : w.heap[b]? = some (.cells c 52 fr)) (hs : c.size = 5) : (loadVar 52 ⟨b, 0, none⟩).run Tryd.prog w = .ok (.agg c) w :=
  run_loadVar_row w b _ _ c fr _ h Tryd.underlying52 rfl (by rw [info_signed, hs])
theorem results_signed {fn : Func} {p u : Tmp} (h : fn.results = #[.cell p 52, .tmp u]) (tmps : Array Value) (w : World) (b : Nat) (c : Array Value) (v : Value) (hp : tmps.getD p undef = .pointer (some ⟨b, 0, none⟩)) (hu : tmps.getD u undef = v)
    (hg : w.heap[b]? = some (.cells c 52)) (hs : c.size = 5) : (results fn tmps).run Tryd.prog w = .ok (.tuple #[.agg c, v]) w := by
  rw [results_cell_tmp h, hp, hu]
  simp [asAddr, load_signed hg hs, Result.andThen]

set_option maxHeartbeats 4000000 in
theorem check_any (q v p a : Int) (nm cd : ByteArray) (w : World) (hn : nm.size ≤ 140737488351232) (hc : cd.size ≤ 140737488351232) (hh : Has w) :
    Calls Tryd.prog 22 #[.int .i64 q, .agg (sgnC nm v cd p a)] w fun e w' => e = .returned (errV 72 (sldE q nm v cd p a)) ∧ Below w.heap.size w w' := by
  have HB := hide (below_new w (.cells (sgnC nm v cd p a) 52))
  have HG := hide (blk_new w (.cells (sgnC nm v cd p a) 52))
  have ME := hide (fun (W : World) (h : Has W) => measure_any nm cd v W hn hc h)
  have HH := hide (hh.below HB.out)
  clear hh
  unfold sgnC at HB HG HH ⊢
  unfold imgC at ME
  go_enter Tryd.func22, Tryd.ntmps22
  go_wp2_with (fail)
  refine (ME.out _ HH.out).mono ?_
  rintro e w1 ⟨rfl, hb1⟩
  have HB1 := hide (below_on HB.out hb1)
  have HG1 := hide (blk_below HG.out hb1)
  clear hb1 HB HG HH ME
  obtain ⟨r0, r1, r2, r3, r4⟩ := cells5 HG1.out
  by_cases hE : imgE nm v cd = 0
  · have HS := hide (sldE_ok (q := q) (p := p) (a := a) hE)
    rw [hE, errV_zero]
    clear hE
    have CK := hide (fun W => hold_any q (meaV nm v cd) p a W)
    unfold sealC at CK
    generalize rigC q (meaV nm v cd) p a = rc at *
    go_wp2_with (fail)
    refine (CK.out _).mono ?_
    rintro e w2 ⟨rfl, hb2⟩
    have HB2 := hide (below_on HB1.out hb2)
    clear hb2 HB1 HG1 CK r0 r1 r2 r3 r4
    go_wp2
    go_ret
    exact ⟨by rw [HS.out]; rfl, HB2.out⟩
  · have HS := hide (sldE_img (q := q) (p := p) (a := a) hE)
    have HX := hide (errV_ne (T := 72) hE)
    rw [errV_ne hE]
    clear hE
    go_wp2
    go_ret
    exact ⟨by rw [HS.out, HX.out]; rfl, HB1.out⟩

/-- Where the image and the seal lie that go into a signed image, where the answer will lie, and that all else is as it was. -/
def InvG (w0 : World) (P Q R : Nat) (nm : ByteArray) (v : Int) (cd : ByteArray) (p a : Int) (W : World) : Prop :=
  Below w0.heap.size w0 W ∧ (w0.heap.size ≤ R ∧ P ≠ R ∧ Q ≠ R) ∧ W.heap[P]? = some (.cells #[.string nm, .int .i64 v, .string cd] 48) ∧ W.heap[Q]? = some (.cells #[.int .i64 p, .int .i64 a] 50) ∧ ∃ x0 x1 x2 x3 x4, W.heap[R]? = some (.cells #[x0, x1, x2, x3, x4] 52)
section
variable {w0 W W' : World} {P Q R : Nat} {nm cd : ByteArray} {v p a : Int}
theorem invG_S (h : InvG w0 P Q R nm v cd p a W) : W.cell? ⟨P, 0, none⟩ = some (.string nm) ∧ W.cell? ⟨P, 1, none⟩ = some (.int .i64 v) ∧ W.cell? ⟨P, 2, none⟩ = some (.string cd) ∧ W.cell? ⟨Q, 0, none⟩ = some (.int .i64 p) ∧ W.cell? ⟨Q, 1, none⟩ = some (.int .i64 a)
    ∧ W.frozen? ⟨R, 0, none⟩ = false ∧ W.frozen? ⟨R, 1, none⟩ = false ∧ W.frozen? ⟨R, 2, none⟩ = false ∧ W.frozen? ⟨R, 3, none⟩ = false ∧ W.frozen? ⟨R, 4, none⟩ = false
    ∧ W.cell? ⟨R, 0, none⟩ = some (cellAt W R 0) ∧ W.cell? ⟨R, 1, none⟩ = some (cellAt W R 1) ∧ W.cell? ⟨R, 2, none⟩ = some (cellAt W R 2) ∧ W.cell? ⟨R, 3, none⟩ = some (cellAt W R 3) ∧ W.cell? ⟨R, 4, none⟩ = some (cellAt W R 4) ∧ InvG w0 P Q R nm v cd p a W := by
  have h' := h
  obtain ⟨h1, h2, h3, h5, x0, x1, x2, x3, x4, h4⟩ := h
  obtain ⟨c0, c1, c2⟩ := img_cells (nm := nm) (v := v) (cd := cd) h3
  obtain ⟨d0, d1⟩ := seal_cells h5
  obtain ⟨f0, f1, f2, f3, f4⟩ := free5 h4
  obtain ⟨e0, e1, e2, e3, e4⟩ := cells5 h4
  exact ⟨c0, c1, c2, d0, d1, f0, f1, f2, f3, f4, cellAt_of e0, cellAt_of e1, cellAt_of e2, cellAt_of e3, cellAt_of e4, h'⟩
theorem invG_drew (h : InvG w0 P Q R nm v cd p a W) : InvG w0 P Q R nm v cd p a W.drew := ⟨Below.drew h.1, h.2⟩
theorem invG_below (h : InvG w0 P Q R nm v cd p a W) (hb : Below W.heap.size W W') : InvG w0 P Q R nm v cd p a W' := by
  obtain ⟨h1, h2, h3, h5, x0, x1, x2, x3, x4, h4⟩ := h
  exact ⟨below_on h1 hb, h2, blk_below h3 hb, blk_below h5 hb, x0, x1, x2, x3, x4, blk_below h4 hb⟩
theorem invG_set (h : InvG w0 P Q R nm v cd p a W) (i : Nat) (u : Value) : InvG w0 P Q R nm v cd p a (W.setCell ⟨R, i, none⟩ u) := by
  obtain ⟨h1, h2, h3, h5, x0, x1, x2, x3, x4, h4⟩ := h
  rw [setCell_eq_setRow W R i _ _ _ u h4]
  refine ⟨below_setRow h1 h2.1 _, h2, by rw [setRow_other _ _ _ _ h2.2.1]; exact h3, by rw [setRow_other _ _ _ _ h2.2.2]; exact h5, ?_⟩
  have h6 := setRow_heap _ _ _ (#[x0, x1, x2, x3, x4].setIfInBounds i u) _ _ h4
  match i with
  | 0 => exact ⟨u, x1, x2, x3, x4, h6⟩
  | 1 => exact ⟨x0, u, x2, x3, x4, h6⟩
  | 2 => exact ⟨x0, x1, u, x3, x4, h6⟩
  | 3 => exact ⟨x0, x1, x2, u, x4, h6⟩
  | 4 => exact ⟨x0, x1, x2, x3, u, h6⟩
  | i + 5 => exact ⟨x0, x1, x2, x3, x4, h6⟩
theorem invG_put (h : InvG w0 P Q R nm v cd p a W) (y0 y1 y2 y3 y4 : Value) :
    (((((W.setCell ⟨R, 0, none⟩ y0).setCell ⟨R, 1, none⟩ y1).setCell ⟨R, 2, none⟩ y2).setCell ⟨R, 3, none⟩ y3).setCell ⟨R, 4, none⟩ y4).heap[R]? = some (.cells #[y0, y1, y2, y3, y4] 52) ∧ Below w0.heap.size w0 (((((W.setCell ⟨R, 0, none⟩ y0).setCell ⟨R, 1, none⟩ y1).setCell ⟨R, 2, none⟩ y2).setCell ⟨R, 3, none⟩ y3).setCell ⟨R, 4, none⟩ y4) := by
  obtain ⟨h1, h2, h3, h5, x0, x1, x2, x3, x4, h4⟩ := h
  rw [set5 h4]
  exact ⟨setRow_heap _ _ _ _ _ _ h4, below_setRow h1 h2.1 _⟩
end

set_option maxHeartbeats 4000000 in
theorem make_any (x k v : Int) (nm cd : ByteArray) (w : World) (hn : nm.size ≤ 140737488351232) (hc : cd.size ≤ 140737488351232) (hh : Has w) :
    Calls Tryd.prog 18 #[.int .i64 x, .int .i64 k, .agg (imgC nm v cd)] w fun e w' => e = .returned (.tuple #[.agg (mkS x k nm v cd), errV 72 (sgnE x k nm v cd)]) ∧ Below w.heap.size w w' := by
  have hbA := below_on (below_new w (.cells (imgC nm v cd) 48)) (below_new _ (.cells (sgnC { data := #[] } 0 { data := #[] } 0 0) 52))
  have HB := hide hbA
  have HI := hide (blk_keep (blk_new w (.cells (imgC nm v cd) 48)) (.cells (sgnC { data := #[] } 0 { data := #[] } 0 0) 52))
  have HG := hide (blk_two w (.cells (imgC nm v cd) 48) (.cells (sgnC { data := #[] } 0 { data := #[] } 0 0) 52))
  have ME := hide (fun (W : World) (h : Has W) => measure_any nm cd v W hn hc h)
  have CL := hide (fun (W : World) => clones_any nm cd v W hn hc)
  have HH := hide (hh.below hbA)
  clear hh hbA
  unfold imgC sgnC at HB HI HG HH
  unfold imgC at ME CL ⊢
  go_enter Tryd.func18, Tryd.ntmps18
  go_wp2_with (fail)
  refine (ME.out _ HH.out).mono ?_
  rintro e w1 ⟨rfl, hb1⟩
  have HB1 := hide (below_on HB.out hb1)
  have HI1 := hide (blk_below HI.out hb1)
  have HG1 := hide (blk_below HG.out hb1)
  clear hb1 HB HI HG HH ME
  by_cases hE : imgE nm v cd = 0
  · have SG := hide (fun W => sign_any x k (meaV nm v cd) W)
    have E := hide (sgnE_ok (x := x) (k := k) hE)
    have SC := hide (show sigC x k (meaV nm v cd) = 0 ∨ sigC x k (meaV nm v cd) = 1 by unfold sigC; split <;> simp)
    have V0 := hide (fun (h : sigC x k (meaV nm v cd) = 0) => mkS_ok (x := x) (k := k) (nm := nm) (v := v) (cd := cd) (E.out.trans h))
    have V1 := hide (fun (h : ¬ sigC x k (meaV nm v cd) = 0) => mkS_no (x := x) (k := k) (nm := nm) (v := v) (cd := cd) (fun e => h (E.out.symm.trans e)))
    rw [hE, errV_zero]
    clear hE
    unfold sealC at SG
    unfold sgnC at V0 V1
    generalize sigC x k (meaV nm v cd) = c at *
    generalize sigP x k (meaV nm v cd) = p at *
    generalize sigA x k (meaV nm v cd) = a at *
    go_wp2_with (fail)
    refine (SG.out _).mono ?_
    rintro e w2 ⟨rfl, hb2⟩
    have HB2 := hide (below_on HB1.out hb2)
    have HI2 := hide (blk_below HI1.out hb2)
    have HG2 := hide (blk_below HG1.out hb2)
    clear hb2 HB1 HI1 HG1 SG
    have hlt := blk_lt HG2.out
    have hli := blk_lt HI2.out
    rcases SC.out with rfl | rfl
    · have V := hide (V0.out rfl)
      clear V0 V1 SC
      rw [errV_zero]
      have hI : InvG w w.heap.size w2.heap.size (w.heap.size + 1) nm v cd p a (w2.alloc (.cells #[.int .i64 p, .int .i64 a] 50)) :=
        ⟨below_on HB2.out (below_new w2 _), ⟨by omega, by omega, by omega⟩, blk_keep HI2.out _, blk_new w2 _, _, _, _, _, _, blk_keep HG2.out _⟩
      obtain ⟨m0, m1, m2, s0, s1, f0, f1, f2, f3, f4, r0, r1, r2, r3, r4, _⟩ := invG_S hI
      clear HB2 HI2 HG2
      go_wp2_with (fail)
      go_region_held3 (fun W => W.cell? ⟨w.heap.size, 0, none⟩ = some (.string nm) ∧ W.cell? ⟨w.heap.size, 1, none⟩ = some (.int .i64 v) ∧ W.cell? ⟨w.heap.size, 2, none⟩ = some (.string cd) ∧ W.cell? ⟨w2.heap.size, 0, none⟩ = some (.int .i64 p) ∧ W.cell? ⟨w2.heap.size, 1, none⟩ = some (.int .i64 a)
        ∧ W.frozen? ⟨w.heap.size + 1, 0, none⟩ = false ∧ W.frozen? ⟨w.heap.size + 1, 1, none⟩ = false ∧ W.frozen? ⟨w.heap.size + 1, 2, none⟩ = false ∧ W.frozen? ⟨w.heap.size + 1, 3, none⟩ = false ∧ W.frozen? ⟨w.heap.size + 1, 4, none⟩ = false
        ∧ W.cell? ⟨w.heap.size + 1, 0, none⟩ = some (cellAt W (w.heap.size + 1) 0) ∧ W.cell? ⟨w.heap.size + 1, 1, none⟩ = some (cellAt W (w.heap.size + 1) 1) ∧ W.cell? ⟨w.heap.size + 1, 2, none⟩ = some (cellAt W (w.heap.size + 1) 2) ∧ W.cell? ⟨w.heap.size + 1, 3, none⟩ = some (cellAt W (w.heap.size + 1) 3) ∧ W.cell? ⟨w.heap.size + 1, 4, none⟩ = some (cellAt W (w.heap.size + 1) 4) ∧ InvG w w.heap.size w2.heap.size (w.heap.size + 1) nm v cd p a W)
        (exact invG_S (by repeat (first | assumption | apply invG_drew | apply invG_set)))
        (first | (go_at_call 37; refine (CL.out _).mono ?_; rintro e w5 ⟨rfl, hb5⟩; have hI5 : InvG w w.heap.size w2.heap.size (w.heap.size + 1) nm v cd p a w5 := invG_below (by repeat (first | assumption | apply invG_drew | apply invG_set)) hb5; clear hb5; obtain ⟨m50, m51, m52, s50, s51, f50, f51, f52, f53, f54, r50, r51, r52, r53, r54, _⟩ := invG_S hI5))
      all_goals
        go_wp2
        refine bodyPost_ret (v := .tuple #[.agg #[.string nm, .int .i64 v, .string cd, .int .i64 p, .int .i64 a], .nilIface]) ?_ rfl ⟨?_, ?_⟩
        · exact results_signed (p := 6) (u := 7) rfl _ _ (w.heap.size + 1) _ _ rfl rfl (invG_put (by repeat (first | assumption | apply invG_drew | apply invG_set)) _ _ _ _ _).1 rfl
        · rw [V.out, E.out]; rfl
        · exact (invG_put (by repeat (first | assumption | apply invG_drew | apply invG_set)) _ _ _ _ _).2
    · have V := hide (V1.out (by decide))
      clear V0 V1 SC
      obtain ⟨r0, r1, r2, r3, r4⟩ := cells5 HG2.out
      obtain ⟨g0, g1, g2, g3, g4⟩ := free5 HG2.out
      rw [errV_one]
      go_wp2
      rw [set5 HG2.out]
      refine bodyPost_ret (v := .tuple #[.agg #[.string { data := #[] }, .int .i64 0, .string { data := #[] }, .int .i64 0, .int .i64 0], .iface 72 (.int .i64 1)]) ?_ rfl ⟨?_, ?_⟩
      · exact results_signed (p := 6) (u := 7) rfl _ _ (w.heap.size + 1) _ _ rfl rfl (blk_keep (setRow_heap _ _ _ _ _ _ HG2.out) _) rfl
      · rw [V.out, E.out]; rfl
      · exact below_on (below_setRow HB2.out (by omega) _) (below_new _ _)
  · have E := hide (sgnE_img (x := x) (k := k) hE)
    have V := hide (mkS_no (x := x) (k := k) (nm := nm) (v := v) (cd := cd) (fun e => hE (E.out.symm.trans e)))
    have HX := hide (errV_ne (T := 72) hE)
    unfold sgnC at V
    rw [errV_ne hE]
    obtain ⟨r0, r1, r2, r3, r4⟩ := cells5 HG1.out
    obtain ⟨g0, g1, g2, g3, g4⟩ := free5 HG1.out
    clear hE
    go_wp2
    rw [set5 HG1.out]
    refine bodyPost_ret (v := .tuple #[.agg #[.string { data := #[] }, .int .i64 0, .string { data := #[] }, .int .i64 0, .int .i64 0], .iface 72 (.int .i64 (imgE nm v cd))]) ?_ rfl ⟨?_, ?_⟩
    · exact results_signed (p := 6) (u := 7) rfl _ _ (w.heap.size + 1) _ _ rfl rfl (setRow_heap _ _ _ _ _ _ HG1.out) rfl
    · rw [V.out, E.out, HX.out]
    · exact below_setRow HB1.out (by omega) _
end Go.Proofs.YtojdaifnljghkaaDoor.Sign
