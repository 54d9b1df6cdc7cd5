/-
  The walk of stairlaw2.SlotPlays: it returns true, and memory that was there stays as it was.
-/
import Derived.Test.YtohojmfhmpgcmaaDoorSlotOb
import Derived.Test.YtohojmfhmpgcmaaDoorSlotRef4
import Derived.Test.YtohojmfhmpgcmaaDoorAs
import Derived.Deep.RegionHeld3
import Derived.Deep.DeepCutAuto
import Derived.Deep.CutBlock
namespace Go.Proofs.YtohojmfhmpgcmaaDoor.SlotPlays
open Go.ChangeShapes Go.WideShapes Go.ChangeAt Go.RowKit
open Go.Proofs.YtohojmfhmpgcmaaDoor.M Go.Proofs.YtohojmfhmpgcmaaDoor.Slot Go.Proofs.YtohojmfhmpgcmaaDoor.SlotRef Go.Proofs.YtohojmfhmpgcmaaDoor.Image
set_option linter.unusedVariables false
set_option linter.unusedSimpArgs false

/-- The program's slots, and the reference's, side by side, and blocks beside them. -/
structure Duo (Slt : World → Nat → Value → (Nat → Prop) → St → Prop) (w0 : World) (B : Nat) (p : Value) (S : Nat → Prop) (t : St) (g : Nat) (u : St) (ks : List (Nat × Obj)) (W : World) : Prop where
  n : Slt W B p S t
  m : SIs W B g u
  ap : ¬ S g
  ks : ∀ x ∈ ks, W.heap[x.1]? = some x.2 ∧ ¬ S x.1 ∧ x.1 ≠ g
  lo : Below B w0 W
  hb : B ≤ W.heap.size
section
variable {Slt : World → Nat → Value → (Nat → Prop) → St → Prop} {w0 W W' : World} {B g : Nat} {p : Value} {S S' : Nat → Prop} {t t' u u' : St} {ks : List (Nat × Obj)}
theorem Duo.kp (h : Duo Slt w0 B p S t g u ks W) : Kp w0 B ks W := ⟨h.lo, fun x hx => (h.ks x hx).1⟩
theorem Duo.below (L : Laws Slt) (h : Duo Slt w0 B p S t g u ks W) (hb : Below W.heap.size W W') : Duo Slt w0 B p S t g u ks W' :=
  ⟨L.below h.n hb, h.m.below hb, h.ap, fun x hx => ⟨blk_below (h.ks x hx).1 hb, (h.ks x hx).2⟩, h.lo.trans (hb.mono h.hb), Nat.le_trans h.hb hb.size⟩
theorem Duo.drew (L : Laws Slt) (h : Duo Slt w0 B p S t g u ks W) : Duo Slt w0 B p S t g u ks W.drew := h.below L (Below.drew (Below.refl _ _))
theorem Duo.stepN (L : Laws Slt) (h : Duo Slt w0 B p S t g u ks W) (hn : Slt W' B p S' t') (ho : Only S W W') (hf : ∀ b, S' b → S b ∨ W.heap.size ≤ b) : Duo Slt w0 B p S' t' g u ks W' := by
  refine ⟨hn, h.m.only ho h.ap, fun hs => ?_, fun x hx => ⟨ho.heap (h.ks x hx).1 (h.ks x hx).2.1, fun hs => ?_, (h.ks x hx).2.2⟩, h.lo.trans (ho.below h.hb (fun k hk => (L.has h.n k hk).1)), Nat.le_trans h.hb ho.size⟩
  · rcases hf _ hs with h1 | h1
    · exact h.ap h1
    · have := blk_lt h.m.1; omega
  · rcases hf _ hs with h1 | h1
    · exact (h.ks x hx).2.1 h1
    · have := blk_lt (h.ks x hx).1; omega
theorem Duo.stepM (L : Laws Slt) (h : Duo Slt w0 B p S t g u ks W) (hn : SIs W' B g u') (ho : Only (fun k => k = g) W W') : Duo Slt w0 B p S t g u' ks W' :=
  ⟨L.only h.n ho (fun k hk e => h.ap (by rw [← e]; exact hk)), hn, h.ap, fun x hx => ⟨ho.heap (h.ks x hx).1 (h.ks x hx).2.2, (h.ks x hx).2⟩, h.lo.trans (ho.below h.hb (fun k hk => by rw [hk]; exact h.m.2)), Nat.le_trans h.hb ho.size⟩
theorem Duo.alloc (L : Laws Slt) (h : Duo Slt w0 B p S t g u ks W) (o : Obj) : Duo Slt w0 B p S t g u ((W.heap.size, o) :: ks) (W.alloc o) := by
  have h1 := h.below L (below_new W o)
  refine ⟨h1.n, h1.m, h1.ap, fun x hx => ?_, h1.lo, h1.hb⟩
  rcases List.mem_cons.1 hx with rfl | hx
  · exact ⟨blk_new W o, fun hs => by have := (L.has h.n _ hs).2; simp at this, fun e => by have := blk_lt h.m.1; simp at e; omega⟩
  · exact h1.ks x hx
theorem Duo.less (h : Duo Slt w0 B p S t g u ks W) {ks' : List (Nat × Obj)} (hk : ∀ x ∈ ks', x ∈ ks) : Duo Slt w0 B p S t g u ks' W := ⟨h.n, h.m, h.ap, fun x hx => h.ks x (hk x hx), h.lo, h.hb⟩
end
theorem kp5_S {w0 W : World} {B P : Nat} {p0 p1 p2 p3 p4 : Value} {U : TypeId} {ks : List (Nat × Obj)} (hP : (P, Obj.cells #[p0, p1, p2, p3, p4] U) ∈ ks) (h : Kp w0 B ks W) :
    W.cell? ⟨P, 0, none⟩ = some p0 ∧ W.cell? ⟨P, 1, none⟩ = some p1 ∧ W.cell? ⟨P, 2, none⟩ = some p2 ∧ W.cell? ⟨P, 3, none⟩ = some p3 ∧ W.cell? ⟨P, 4, none⟩ = some p4 ∧ Kp w0 B ks W := by
  obtain ⟨x0, x1, x2, x3, x4⟩ := five (h.2 _ hP)
  exact ⟨x0, x1, x2, x3, x4, h⟩
theorem duo24 {Slt : World → Nat → Value → (Nat → Prop) → St → Prop} {w0 W : World} {B g A Q : Nat} {p : Value} {S : Nat → Prop} {t u : St} {ks : List (Nat × Obj)} {T : TypeId} {ad : Addr} {dv : Value} {xn xc yn yc : ByteArray} {xv xp xa xt yv yp ya yt : Int} {xf xg yf yg r : Bool}
    (hA : (A, Obj.cells #[.string xn, .int .i64 xv, .string xc, .int .i64 xp, .int .i64 xa, .bool xf, .int .i64 xt, .bool xg] T) ∈ ks) (hQ : (Q, Obj.cells #[.string yn, .int .i64 yv, .string yc, .int .i64 yp, .int .i64 ya, .bool yf, .int .i64 yt, .bool yg] T) ∈ ks) (hd : ∀ W, Below B w0 W → W.cell? ad = some dv) (hm : SIs W B g ⟨⟨⟨xn, xv, xc, xp, xa⟩, xf, xt, xg⟩, ⟨⟨yn, yv, yc, yp, ya⟩, yf, yt, yg⟩, r⟩) (h : Duo Slt w0 B p S t g u ks W) :
    (W.cell? ⟨A, 0, none⟩ = some (.string xn) ∧ W.cell? ⟨A, 1, none⟩ = some (.int .i64 xv) ∧ W.cell? ⟨A, 2, none⟩ = some (.string xc) ∧ W.cell? ⟨A, 3, none⟩ = some (.int .i64 xp) ∧ W.cell? ⟨A, 4, none⟩ = some (.int .i64 xa) ∧ W.cell? ⟨A, 5, none⟩ = some (.bool xf) ∧ W.cell? ⟨A, 6, none⟩ = some (.int .i64 xt) ∧ W.cell? ⟨A, 7, none⟩ = some (.bool xg)) ∧ (W.cell? ⟨Q, 0, none⟩ = some (.string yn) ∧ W.cell? ⟨Q, 1, none⟩ = some (.int .i64 yv) ∧ W.cell? ⟨Q, 2, none⟩ = some (.string yc) ∧ W.cell? ⟨Q, 3, none⟩ = some (.int .i64 yp) ∧ W.cell? ⟨Q, 4, none⟩ = some (.int .i64 ya) ∧ W.cell? ⟨Q, 5, none⟩ = some (.bool yf) ∧ W.cell? ⟨Q, 6, none⟩ = some (.int .i64 yt) ∧ W.cell? ⟨Q, 7, none⟩ = some (.bool yg)) ∧ (W.cell? ⟨g, 0, none⟩ = some (.string xn) ∧ W.cell? ⟨g, 1, none⟩ = some (.int .i64 xv) ∧ W.cell? ⟨g, 2, none⟩ = some (.string xc) ∧ W.cell? ⟨g, 3, none⟩ = some (.int .i64 xp) ∧ W.cell? ⟨g, 4, none⟩ = some (.int .i64 xa) ∧ W.cell? ⟨g, 5, none⟩ = some (.bool xf) ∧ W.cell? ⟨g, 6, none⟩ = some (.int .i64 xt) ∧ W.cell? ⟨g, 7, none⟩ = some (.bool xg)) ∧ (W.cell? ⟨g, 8, none⟩ = some (.string yn) ∧ W.cell? ⟨g, 9, none⟩ = some (.int .i64 yv) ∧ W.cell? ⟨g, 10, none⟩ = some (.string yc) ∧ W.cell? ⟨g, 11, none⟩ = some (.int .i64 yp) ∧ W.cell? ⟨g, 12, none⟩ = some (.int .i64 ya) ∧ W.cell? ⟨g, 13, none⟩ = some (.bool yf) ∧ W.cell? ⟨g, 14, none⟩ = some (.int .i64 yt) ∧ W.cell? ⟨g, 15, none⟩ = some (.bool yg)) ∧ W.cell? ad = some dv ∧ Duo Slt w0 B p S t g u ks W := by
  obtain ⟨hx, hy, _⟩ := cells8 hm.1
  exact ⟨eight (h.ks _ hA).1, eight (h.ks _ hQ).1, hx, hy, hd W h.lo, h⟩
theorem sgE_same (s : Sg) : sgE s = imgE s.nm s.v s.cd := rfl

set_option maxRecDepth 20000 in
set_option maxHeartbeats 4000000 in
theorem start {Slt : World → Nat → Value → (Nat → Prop) → St → Prop} (L : Laws Slt) (a1 a2 : Option Addr) (n1 n2 c1 c2 : Nat) (s : Sg) (w : World) (hs : szS s) (hg : As.Handle w) (hE : ¬ sgE s = 0) :
    Calls Tryd.prog 4 #[sgA s, .slice a1 n1 c1, .slice a2 n2 c2] w fun e w' => e = .returned (.bool true) ∧ Below w.heap.size w w' := by
  have HH := hide (fun (W : World) (h : Below w.heap.size w W) => hg.below h)
  have hbA := below_new w (.cells #[.string s.nm, .int .i64 s.v, .string s.cd, .int .i64 s.p, .int .i64 s.a] 27)
  have HP := hide (blk_new w (.cells #[.string s.nm, .int .i64 s.v, .string s.cd, .int .i64 s.p, .int .i64 s.a] 27))
  have HB := hide hbA
  obtain ⟨p0, p1, p2, p3, p4⟩ := five HP.out
  have IM := hide (fun (W : World) => Ref.image_any s.nm s.cd s.v W hs.1 hs.2)
  have NW := hide (fun (W : World) => L.newNo s W hs hE)
  unfold sgA at NW ⊢
  unfold imgC at IM
  have HZ := hide hE
  rw [← sgE_same s] at IM
  clear hg L hbA hs
  generalize sgE s = ie at *
  go_enter Tryd.func4, Tryd.ntmps4
  go_wp2_with (fail)
  refine (IM.out _).mono ?_
  rintro e w1 ⟨rfl, hb1⟩
  have HB1 := hide (below_on HB.out hb1)
  have HP1 := hide (blk_below HP.out hb1)
  clear hb1 HB HP p0 p1 p2 p3 p4 IM
  obtain ⟨p0, p1, p2, p3, p4⟩ := five HP1.out
  go_wp2_with (fail)
  refine (NW.out _).mono ?_
  rintro e w2 ⟨rfl, hb2⟩
  have HB2 := hide (below_on HB1.out hb2)
  clear hb2 HB1 HP1 p0 p1 p2 p3 p4 NW
  go_wp2_with (fail)
  refine (As.same_is _ _ _ rfl (HH.out _ HB2.out)).mono ?_
  rintro e w3 ⟨rfl, hb3⟩
  have HB3 := hide (below_on HB2.out hb3)
  clear hb3 HB2
  go_wp2
  go_ret
  exact ⟨rfl, HB3.out⟩

set_option maxRecDepth 20000 in
set_option maxHeartbeats 8000000 in
theorem walk {Slt : World → Nat → Value → (Nat → Prop) → St → Prop} (L : Laws Slt) (LU : PutLaw Slt) (LP : PickLaw Slt) (a1 a2 : Option Addr) (n1 n2 c1 c2 : Nat) (s : Sg) (ds : List Int) (ls : List Sg) (w : World) (hs : szS s)
    (hn1 : n1 = ds.length) (hm1 : n1 ≤ maxLen) (hr1 : Row w a1 ds) (hw1 : ∀ d ∈ ds, -9223372036854775808 ≤ d ∧ d ≤ 9223372036854775807) (hn2 : n2 = ls.length) (hm2 : n2 ≤ maxLen) (hr2 : RRow 5 sgV w a2 ls) (hs2 : ∀ s ∈ ls, szS s) (hg : As.Handle w) (hE : sgE s = 0) :
    Calls Tryd.prog 4 #[sgA s, .slice a1 n1 c1, .slice a2 n2 c2] w fun e w' => e = .returned (.bool true) ∧ Below w.heap.size w w' := by
  have HH := hide (fun (W : World) (h : Below w.heap.size w W) => hg.below h)
  have HL := hide L
  have HLU := hide LU
  have HLP := hide LP
  have HR1 := hide hr1
  have HW1 := hide hw1
  have HR2 := hide hr2
  have HS2 := hide hs2
  have HN1 := hide hn1
  have HN2 := hide hn2
  have hm1' : n1 ≤ 9223372036854775807 := by unfold maxLen at hm1; omega
  have hm2' : n2 ≤ 9223372036854775807 := by unfold maxLen at hm2; omega
  have hbA := below_new w (.cells #[.string s.nm, .int .i64 s.v, .string s.cd, .int .i64 s.p, .int .i64 s.a] 27)
  have HP := hide (blk_new w (.cells #[.string s.nm, .int .i64 s.v, .string s.cd, .int .i64 s.p, .int .i64 s.a] 27))
  have HB := hide hbA
  obtain ⟨p0, p1, p2, p3, p4⟩ := five HP.out
  have IM := hide (fun (W : World) => Ref.image_any s.nm s.cd s.v W hs.1 hs.2)
  have NW := hide (fun (W : World) (h : w.heap.size ≤ W.heap.size) => L.new s W w.heap.size hs hE h)
  have NR := hide (fun (W : World) => new_any s W)
  unfold sgA at NW NR ⊢
  unfold imgC at IM
  rw [← sgE_same s, hE] at IM
  clear hg L LU LP hw1 hr1 hr2 hs2 hn1 hn2 hm1 hm2 hbA hs hE
  go_enter Tryd.func4, Tryd.ntmps4
  go_wp2_with (fail)
  refine (IM.out _).mono ?_
  rintro e w1 ⟨rfl, hb1⟩
  have HB1 := hide (below_on HB.out hb1)
  have HP1 := hide (blk_below HP.out hb1)
  clear hb1 HB HP p0 p1 p2 p3 p4 IM
  obtain ⟨p0, p1, p2, p3, p4⟩ := five HP1.out
  go_wp2_with (fail)
  refine (NW.out _ HB1.out.size).mono ?_
  rintro e w2 ⟨p, S0, rfl, hn2, hf2, hb2⟩
  have HB2 := hide (below_on HB1.out hb2)
  have HP2 := hide (blk_below HP1.out hb2)
  have HN := hide hn2
  clear hb2 hf2 hn2 HB1 HP1 p0 p1 p2 p3 p4 NW
  go_wp2_with (fail)
  refine (As.same_nil _ _).mono ?_
  rintro e w2' ⟨rfl, hw⟩
  rw [hw]
  clear hw
  obtain ⟨p0, p1, p2, p3, p4⟩ := five HP2.out
  go_wp2_with (fail)
  refine (NR.out _).mono ?_
  rintro e w3 ⟨g, rfl, hm3, hg3, hb3⟩
  have HD3 : Hid (Duo Slt w w.heap.size p S0 (newT s) g (newT s) [] w3) :=
    ⟨HL.out.below HN.out hb3, ⟨hm3.1, Nat.le_trans HB2.out.size hg3⟩, fun h => by have := (HL.out.has HN.out _ h).2; omega, (fun x hx => by cases hx), below_on HB2.out hb3, Nat.le_trans HB2.out.size hb3.size⟩
  clear hm3 hg3 hb3 HN HB2 HP2 p0 p1 p2 p3 p4 NR
  go_wp2
  go_loopw [10, 12, 13, 14, 15, 16, 17, 18, 19, 20, 60, 79] (fun _ s12 s13 _ _ _ _ _ _ _ _ _ wr => ∃ (i at' : Nat) (S : Nat → Prop) (t : St), i ≤ 60 ∧ at' ≤ i ∧ s12 = .int .i64 at' ∧ s13 = .int .i64 i ∧ Hid (Duo Slt w w.heap.size p S t g t [] wr)) (fun _ _ s13 _ _ _ _ _ _ _ _ _ _ => 60 - (intOf s13).toNat)
  case atStart => exact ⟨0, 0, S0, newT s, by omega, by omega, rfl, rfl, HD3.out⟩
  case round =>
    obtain ⟨i, k, S, t, h60, hki, rfl, rfl, HD⟩ := hrel
    clear HD3
    by_cases hlt : i < n1 ∧ i < 60
    · obtain ⟨i1, i60⟩ := hlt
      have i1z : (i : Int) < n1 := by omega
      have i60z : (i : Int) < 60 := by omega
      obtain ⟨d, hd⟩ : ∃ y, ds[i]? = some y := ⟨ds[i]'(by have := HN1.out; omega), List.getElem?_eq_getElem (by have := HN1.out; omega)⟩
      obtain ⟨b1, o1, rfl, _⟩ : ∃ b off, a1 = some ⟨b, off, none⟩ ∧ w.cell? ⟨b, off + i, none⟩ = some (.int .i64 d) := by
        rcases HR1.out with h | ⟨b, off, h1, h2⟩
        · rw [h] at hd; simp at hd
        · exact ⟨b, off, h1, h2 i d hd⟩
      have HC1 := hide (show ∀ W, Below w.heap.size w W → W.cell? ⟨b1, o1 + i, none⟩ = some (.int .i64 d) from fun W hb => by
        rcases HR1.out.below hb with h | ⟨b, off, h1, h2⟩
        · rw [h] at hd; simp at hd
        · cases h1; exact h2 i d hd)
      obtain ⟨dl, dh⟩ := HW1.out d (List.mem_of_getElem? hd)
      clear hd
      have hd1 := HC1.out _ HD.out.lo
      go_upto_block 2 with (fail)
      go_cut [10, 12, 14] from 41 to 152 (fun s10 s12 _ w' => s10 = .bool true ∧ ∃ (k : Nat) (S : Nat → Prop) (t : St), k ≤ i + 1 ∧ s12 = .int .i64 k ∧ Hid (Duo Slt w w.heap.size p S t g t [] w'))
      case first =>
        by_cases hd0 : d = 0
        · subst hd0
          by_cases hk2 : k < n2
          · have hk2z : (k : Int) < n2 := by omega
            obtain ⟨⟨nm, v, cd, pp, aa⟩, hsk⟩ : ∃ y, ls[k]? = some y := ⟨ls[k]'(by have := HN2.out; omega), List.getElem?_eq_getElem (by have := HN2.out; omega)⟩
            have HSZ := hide (HS2.out _ (List.mem_of_getElem? hsk))
            obtain ⟨b2, o2, rfl, hcell⟩ := (HR2.out.below (HD.out.alloc HL.out (.cells #[.string { data := #[] }, .int .i64 0, .string { data := #[] }, .int .i64 0, .int .i64 0] 27)).lo).at hsk
            have l0 := hcell 0 (.string nm) rfl
            have l1 := hcell 1 (.int .i64 v) rfl
            have l2 := hcell 2 (.string cd) rfl
            have l3 := hcell 3 (.int .i64 pp) rfl
            have l4 := hcell 4 (.int .i64 aa) rfl
            simp only [Nat.add_zero] at l0
            clear hcell hsk
            have HDA := hide (HD.out.alloc HL.out (.cells #[.string nm, .int .i64 v, .string cd, .int .i64 pp, .int .i64 aa] 27))
            have PU : Hid (∀ (W : World), Slt W w.heap.size p S t → w.heap.size ≤ W.heap.size → Calls Tryd.prog 14 #[p, .agg #[.string nm, .int .i64 v, .string cd, .int .i64 pp, .int .i64 aa]] W fun e w' => ∃ S', e = .returned (errV 58 (putE t ⟨nm, v, cd, pp, aa⟩)) ∧ Slt w' w.heap.size p S' (putT t ⟨nm, v, cd, pp, aa⟩) ∧ Only S W w' ∧ (∀ b, S' b → S b ∨ W.heap.size ≤ b)) := fun W h hb => HLU.out p S t ⟨nm, v, cd, pp, aa⟩ W w.heap.size h HSZ.out hb
            have PR : Hid (∀ (W : World), SIs W w.heap.size g t → Calls Tryd.prog 15 #[.pointer (some ⟨g, 0, none⟩), .agg #[.string nm, .int .i64 v, .string cd, .int .i64 pp, .int .i64 aa]] W fun e w' => e = .returned (.int .i64 (putE t ⟨nm, v, cd, pp, aa⟩)) ∧ SIs w' w.heap.size g (putT t ⟨nm, v, cd, pp, aa⟩) ∧ Only (fun k => k = g) W w') := fun W h => put_any g t ⟨nm, v, cd, pp, aa⟩ W w.heap.size h HSZ.out
            generalize putE t ⟨nm, v, cd, pp, aa⟩ = pe at *
            generalize putT t ⟨nm, v, cd, pp, aa⟩ = pt at *
            have MP := hide (show (wr.heap.size, Obj.cells #[.string nm, .int .i64 v, .string cd, .int .i64 pp, .int .i64 aa] 27) ∈ [(wr.heap.size, Obj.cells #[.string nm, .int .i64 v, .string cd, .int .i64 pp, .int .i64 aa] 27)] by simp)
            have hDA := HDA.out
            have hKA := hDA.kp
            obtain ⟨q0, q1, q2, q3, q4, _⟩ := kp5_S MP.out hKA
            go_wp2_with (fail)
            go_region_held3 (fun W => W.cell? ⟨wr.heap.size, 0, none⟩ = some (.string nm) ∧ W.cell? ⟨wr.heap.size, 1, none⟩ = some (.int .i64 v) ∧ W.cell? ⟨wr.heap.size, 2, none⟩ = some (.string cd) ∧ W.cell? ⟨wr.heap.size, 3, none⟩ = some (.int .i64 pp) ∧ W.cell? ⟨wr.heap.size, 4, none⟩ = some (.int .i64 aa) ∧ Kp w w.heap.size [(wr.heap.size, Obj.cells #[.string nm, .int .i64 v, .string cd, .int .i64 pp, .int .i64 aa] 27)] W)
              (exact kp5_S MP.out (by repeat (first | assumption | apply Kp.drew)))
              (first
                | (go_at_call 14; refine (PU.out _ (Duo.n (show Duo Slt w w.heap.size p S t g t [(wr.heap.size, Obj.cells #[.string nm, .int .i64 v, .string cd, .int .i64 pp, .int .i64 aa] 27)] _ from (by repeat (first | assumption | apply Duo.drew HL.out)))) (Duo.hb (show Duo Slt w w.heap.size p S t g t [(wr.heap.size, Obj.cells #[.string nm, .int .i64 v, .string cd, .int .i64 pp, .int .i64 aa] 27)] _ from (by repeat (first | assumption | apply Duo.drew HL.out))))).mono ?_; rintro e w5 ⟨S5, rfl, hn5, ho5, hf5⟩; have hD5 : Duo Slt w w.heap.size p S5 pt g t [(wr.heap.size, Obj.cells #[.string nm, .int .i64 v, .string cd, .int .i64 pp, .int .i64 aa] 27)] w5 := Duo.stepN HL.out (by repeat (first | assumption | apply Duo.drew HL.out)) hn5 ho5 hf5; have hK5 := hD5.kp; clear hn5 ho5 hf5; obtain ⟨q50, q51, q52, q53, q54, _⟩ := kp5_S MP.out hK5)
                | (go_at_call 14; refine (PU.out _ (Duo.n (show Duo Slt w w.heap.size p S t g pt [(wr.heap.size, Obj.cells #[.string nm, .int .i64 v, .string cd, .int .i64 pp, .int .i64 aa] 27)] _ from (by repeat (first | assumption | apply Duo.drew HL.out)))) (Duo.hb (show Duo Slt w w.heap.size p S t g pt [(wr.heap.size, Obj.cells #[.string nm, .int .i64 v, .string cd, .int .i64 pp, .int .i64 aa] 27)] _ from (by repeat (first | assumption | apply Duo.drew HL.out))))).mono ?_; rintro e w5 ⟨S5, rfl, hn5, ho5, hf5⟩; have hD5 : Duo Slt w w.heap.size p S5 pt g pt [(wr.heap.size, Obj.cells #[.string nm, .int .i64 v, .string cd, .int .i64 pp, .int .i64 aa] 27)] w5 := Duo.stepN HL.out (by repeat (first | assumption | apply Duo.drew HL.out)) hn5 ho5 hf5; have hK5 := hD5.kp; clear hn5 ho5 hf5; obtain ⟨q50, q51, q52, q53, q54, _⟩ := kp5_S MP.out hK5)
                | (go_at_call 15; refine (PR.out _ (Duo.m (show Duo Slt w w.heap.size p S t g t [(wr.heap.size, Obj.cells #[.string nm, .int .i64 v, .string cd, .int .i64 pp, .int .i64 aa] 27)] _ from (by repeat (first | assumption | apply Duo.drew HL.out))))).mono ?_; rintro e w6 ⟨rfl, hn6, ho6⟩; have hD6 : Duo Slt w w.heap.size p S t g pt [(wr.heap.size, Obj.cells #[.string nm, .int .i64 v, .string cd, .int .i64 pp, .int .i64 aa] 27)] w6 := Duo.stepM HL.out (by repeat (first | assumption | apply Duo.drew HL.out)) hn6 ho6; have hK6 := hD6.kp; clear hn6 ho6; obtain ⟨q60, q61, q62, q63, q64, _⟩ := kp5_S MP.out hK6)
                | (go_at_call 15; refine (PR.out _ (Duo.m (show Duo Slt w w.heap.size p _ pt g t [(wr.heap.size, Obj.cells #[.string nm, .int .i64 v, .string cd, .int .i64 pp, .int .i64 aa] 27)] _ from (by repeat (first | assumption | apply Duo.drew HL.out))))).mono ?_; rintro e w6 ⟨rfl, hn6, ho6⟩; have hD6 : Duo Slt w w.heap.size p _ pt g pt [(wr.heap.size, Obj.cells #[.string nm, .int .i64 v, .string cd, .int .i64 pp, .int .i64 aa] 27)] w6 := Duo.stepM HL.out (by repeat (first | assumption | apply Duo.drew HL.out)) hn6 ho6; have hK6 := hD6.kp; clear hn6 ho6; obtain ⟨q60, q61, q62, q63, q64, _⟩ := kp5_S MP.out hK6)
                | (go_at_call 9; refine (As.same_is _ _ _ rfl (HH.out _ (Duo.lo (show Duo Slt w w.heap.size p _ pt g pt [(wr.heap.size, Obj.cells #[.string nm, .int .i64 v, .string cd, .int .i64 pp, .int .i64 aa] 27)] _ from (by repeat (first | assumption | apply Duo.drew HL.out)))))).mono ?_; rintro e w7 ⟨rfl, hb7⟩; have hD7 : Duo Slt w w.heap.size p _ pt g pt [(wr.heap.size, Obj.cells #[.string nm, .int .i64 v, .string cd, .int .i64 pp, .int .i64 aa] 27)] w7 := Duo.below HL.out (by repeat (first | assumption | apply Duo.drew HL.out)) hb7; have hK7 := hD7.kp; clear hb7; obtain ⟨q70, q71, q72, q73, q74, _⟩ := kp5_S MP.out hK7))
            all_goals
              go_wp2
              go_meet
              exact ⟨rfl, k + 1, _, pt, by omega, by go_num, Duo.less (ks := [(wr.heap.size, Obj.cells #[.string nm, .int .i64 v, .string cd, .int .i64 pp, .int .i64 aa] 27)]) (by repeat (first | assumption | apply Duo.drew HL.out)) (by intro x hx; cases hx)⟩

          · have hk2z : ¬ (k : Int) < n2 := by omega
            have HSZ := hide (show szS noSg from ⟨by show 0 ≤ _; omega, by show 0 ≤ _; omega⟩)
            have HDA := hide (HD.out.alloc HL.out (.cells #[.string { data := #[] }, .int .i64 0, .string { data := #[] }, .int .i64 0, .int .i64 0] 27))
            have PU : Hid (∀ (W : World), Slt W w.heap.size p S t → w.heap.size ≤ W.heap.size → Calls Tryd.prog 14 #[p, .agg #[.string { data := #[] }, .int .i64 0, .string { data := #[] }, .int .i64 0, .int .i64 0]] W fun e w' => ∃ S', e = .returned (errV 58 (putE t noSg)) ∧ Slt w' w.heap.size p S' (putT t noSg) ∧ Only S W w' ∧ (∀ b, S' b → S b ∨ W.heap.size ≤ b)) := fun W h hb => HLU.out p S t noSg W w.heap.size h HSZ.out hb
            have PR : Hid (∀ (W : World), SIs W w.heap.size g t → Calls Tryd.prog 15 #[.pointer (some ⟨g, 0, none⟩), .agg #[.string { data := #[] }, .int .i64 0, .string { data := #[] }, .int .i64 0, .int .i64 0]] W fun e w' => e = .returned (.int .i64 (putE t noSg)) ∧ SIs w' w.heap.size g (putT t noSg) ∧ Only (fun k => k = g) W w') := fun W h => put_any g t noSg W w.heap.size h HSZ.out
            generalize putE t noSg = pe at *
            generalize putT t noSg = pt at *
            have MP := hide (show (wr.heap.size, Obj.cells #[.string { data := #[] }, .int .i64 0, .string { data := #[] }, .int .i64 0, .int .i64 0] 27) ∈ [(wr.heap.size, Obj.cells #[.string { data := #[] }, .int .i64 0, .string { data := #[] }, .int .i64 0, .int .i64 0] 27)] by simp)
            have hDA := HDA.out
            have hKA := hDA.kp
            obtain ⟨q0, q1, q2, q3, q4, _⟩ := kp5_S MP.out hKA
            go_wp2_with (fail)
            go_region_held3 (fun W => W.cell? ⟨wr.heap.size, 0, none⟩ = some (.string { data := #[] }) ∧ W.cell? ⟨wr.heap.size, 1, none⟩ = some (.int .i64 0) ∧ W.cell? ⟨wr.heap.size, 2, none⟩ = some (.string { data := #[] }) ∧ W.cell? ⟨wr.heap.size, 3, none⟩ = some (.int .i64 0) ∧ W.cell? ⟨wr.heap.size, 4, none⟩ = some (.int .i64 0) ∧ Kp w w.heap.size [(wr.heap.size, Obj.cells #[.string { data := #[] }, .int .i64 0, .string { data := #[] }, .int .i64 0, .int .i64 0] 27)] W)
              (exact kp5_S MP.out (by repeat (first | assumption | apply Kp.drew)))
              (first
                | (go_at_call 14; refine (PU.out _ (Duo.n (show Duo Slt w w.heap.size p S t g t [(wr.heap.size, Obj.cells #[.string { data := #[] }, .int .i64 0, .string { data := #[] }, .int .i64 0, .int .i64 0] 27)] _ from (by repeat (first | assumption | apply Duo.drew HL.out)))) (Duo.hb (show Duo Slt w w.heap.size p S t g t [(wr.heap.size, Obj.cells #[.string { data := #[] }, .int .i64 0, .string { data := #[] }, .int .i64 0, .int .i64 0] 27)] _ from (by repeat (first | assumption | apply Duo.drew HL.out))))).mono ?_; rintro e w5 ⟨S5, rfl, hn5, ho5, hf5⟩; have hD5 : Duo Slt w w.heap.size p S5 pt g t [(wr.heap.size, Obj.cells #[.string { data := #[] }, .int .i64 0, .string { data := #[] }, .int .i64 0, .int .i64 0] 27)] w5 := Duo.stepN HL.out (by repeat (first | assumption | apply Duo.drew HL.out)) hn5 ho5 hf5; have hK5 := hD5.kp; clear hn5 ho5 hf5; obtain ⟨q50, q51, q52, q53, q54, _⟩ := kp5_S MP.out hK5)
                | (go_at_call 14; refine (PU.out _ (Duo.n (show Duo Slt w w.heap.size p S t g pt [(wr.heap.size, Obj.cells #[.string { data := #[] }, .int .i64 0, .string { data := #[] }, .int .i64 0, .int .i64 0] 27)] _ from (by repeat (first | assumption | apply Duo.drew HL.out)))) (Duo.hb (show Duo Slt w w.heap.size p S t g pt [(wr.heap.size, Obj.cells #[.string { data := #[] }, .int .i64 0, .string { data := #[] }, .int .i64 0, .int .i64 0] 27)] _ from (by repeat (first | assumption | apply Duo.drew HL.out))))).mono ?_; rintro e w5 ⟨S5, rfl, hn5, ho5, hf5⟩; have hD5 : Duo Slt w w.heap.size p S5 pt g pt [(wr.heap.size, Obj.cells #[.string { data := #[] }, .int .i64 0, .string { data := #[] }, .int .i64 0, .int .i64 0] 27)] w5 := Duo.stepN HL.out (by repeat (first | assumption | apply Duo.drew HL.out)) hn5 ho5 hf5; have hK5 := hD5.kp; clear hn5 ho5 hf5; obtain ⟨q50, q51, q52, q53, q54, _⟩ := kp5_S MP.out hK5)
                | (go_at_call 15; refine (PR.out _ (Duo.m (show Duo Slt w w.heap.size p S t g t [(wr.heap.size, Obj.cells #[.string { data := #[] }, .int .i64 0, .string { data := #[] }, .int .i64 0, .int .i64 0] 27)] _ from (by repeat (first | assumption | apply Duo.drew HL.out))))).mono ?_; rintro e w6 ⟨rfl, hn6, ho6⟩; have hD6 : Duo Slt w w.heap.size p S t g pt [(wr.heap.size, Obj.cells #[.string { data := #[] }, .int .i64 0, .string { data := #[] }, .int .i64 0, .int .i64 0] 27)] w6 := Duo.stepM HL.out (by repeat (first | assumption | apply Duo.drew HL.out)) hn6 ho6; have hK6 := hD6.kp; clear hn6 ho6; obtain ⟨q60, q61, q62, q63, q64, _⟩ := kp5_S MP.out hK6)
                | (go_at_call 15; refine (PR.out _ (Duo.m (show Duo Slt w w.heap.size p _ pt g t [(wr.heap.size, Obj.cells #[.string { data := #[] }, .int .i64 0, .string { data := #[] }, .int .i64 0, .int .i64 0] 27)] _ from (by repeat (first | assumption | apply Duo.drew HL.out))))).mono ?_; rintro e w6 ⟨rfl, hn6, ho6⟩; have hD6 : Duo Slt w w.heap.size p _ pt g pt [(wr.heap.size, Obj.cells #[.string { data := #[] }, .int .i64 0, .string { data := #[] }, .int .i64 0, .int .i64 0] 27)] w6 := Duo.stepM HL.out (by repeat (first | assumption | apply Duo.drew HL.out)) hn6 ho6; have hK6 := hD6.kp; clear hn6 ho6; obtain ⟨q60, q61, q62, q63, q64, _⟩ := kp5_S MP.out hK6)
                | (go_at_call 9; refine (As.same_is _ _ _ rfl (HH.out _ (Duo.lo (show Duo Slt w w.heap.size p _ pt g pt [(wr.heap.size, Obj.cells #[.string { data := #[] }, .int .i64 0, .string { data := #[] }, .int .i64 0, .int .i64 0] 27)] _ from (by repeat (first | assumption | apply Duo.drew HL.out)))))).mono ?_; rintro e w7 ⟨rfl, hb7⟩; have hD7 : Duo Slt w w.heap.size p _ pt g pt [(wr.heap.size, Obj.cells #[.string { data := #[] }, .int .i64 0, .string { data := #[] }, .int .i64 0, .int .i64 0] 27)] w7 := Duo.below HL.out (by repeat (first | assumption | apply Duo.drew HL.out)) hb7; have hK7 := hD7.kp; clear hb7; obtain ⟨q70, q71, q72, q73, q74, _⟩ := kp5_S MP.out hK7))
            all_goals
              go_wp2
              go_meet
              exact ⟨rfl, k, _, pt, by omega, rfl, Duo.less (ks := [(wr.heap.size, Obj.cells #[.string { data := #[] }, .int .i64 0, .string { data := #[] }, .int .i64 0, .int .i64 0] 27)]) (by repeat (first | assumption | apply Duo.drew HL.out)) (by intro x hx; cases hx)⟩

        · by_cases hd1' : d = 1
          · subst hd1'
            go_wp2_with (fail)
            refine (HL.out.good p S t _ w.heap.size HD.out.n HD.out.hb).mono ?_
            rintro e w2 ⟨S2, rfl, hn2, ho2, hf2⟩
            have HD2 := hide (HD.out.stepN HL.out hn2 ho2 hf2)
            clear hn2 ho2 hf2 HD hd1
            go_wp2_with (fail)
            refine (good_any g t _ w.heap.size HD2.out.m).mono ?_
            rintro e w3 ⟨rfl, hm3, ho3⟩
            have HD3 := hide (HD2.out.stepM HL.out hm3 ho3)
            clear hm3 ho3 HD2
            generalize goodE t = ge at *
            go_wp2_with (fail)
            refine (As.same_is _ _ _ rfl (HH.out _ HD3.out.lo)).mono ?_
            rintro e w4 ⟨rfl, hb4⟩
            have HD4 := hide (HD3.out.below HL.out hb4)
            clear hb4 HD3
            go_wp2
            go_meet
            exact ⟨rfl, k, S2, goodT t, by omega, rfl, HD4.out⟩
          · have OK := hide (HL.out.ok HD.out.n)
            have SN := hide (HL.out.start p S t wr w.heap.size HD.out.n HD.out.hb)
            have SR := hide (fun (W : World) (h : SIs W w.heap.size g t) => start_any g t W w.heap.size h OK.out.x OK.out.y)
            obtain ⟨⟨nm, v, cd, pp, aa⟩, hsg⟩ : ∃ y, (t.at (pickT t)).s = y := ⟨_, rfl⟩
            rw [hsg] at SN SR
            unfold sgA at SN SR
            simp only [] at SN SR
            go_wp2_with (fail)
            refine SN.out.mono ?_
            rintro e w2 ⟨S2, rfl, hn2, ho2, hf2⟩
            have HD2 := hide (HD.out.stepN HL.out hn2 ho2 hf2)
            clear hn2 ho2 hf2 HD hd1 SN
            go_wp2_with (fail)
            refine (SR.out _ HD2.out.m).mono ?_
            rintro e w3 ⟨rfl, hm3, ho3⟩
            have HD3 := hide (HD2.out.stepM HL.out hm3 ho3)
            clear hm3 ho3 HD2 SR
            go_wp2
            go_meet
            exact ⟨by simp, k, S2, startT t, by omega, rfl, HD3.out⟩
      case rest =>
      obtain ⟨rfl, k', S', t', hk', rfl, HD2⟩ := hcut
      clear HD hd1
      obtain ⟨⟨⟨xn, xv, xc, xp, xa⟩, xf, xt, xg⟩, ⟨⟨yn, yv, yc, yp, ya⟩, yf, yt, yg⟩, r⟩ := t'
      have A0 : Hid (∀ (W : World), Slt W w.heap.size p S' ⟨⟨⟨xn, xv, xc, xp, xa⟩, xf, xt, xg⟩, ⟨⟨yn, yv, yc, yp, ya⟩, yf, yt, yg⟩, r⟩ → Calls Tryd.prog 7 #[p, .int .i64 0] W fun e w' => e = .returned (.tuple #[.agg #[.string xn, .int .i64 xv, .string xc, .int .i64 xp, .int .i64 xa, .bool xf, .int .i64 xt, .bool xg], .nilIface]) ∧ Below W.heap.size W w') := fun W h => HL.out.at' p S' _ 0 W w.heap.size h
      have A1 : Hid (∀ (W : World), Slt W w.heap.size p S' ⟨⟨⟨xn, xv, xc, xp, xa⟩, xf, xt, xg⟩, ⟨⟨yn, yv, yc, yp, ya⟩, yf, yt, yg⟩, r⟩ → Calls Tryd.prog 7 #[p, .int .i64 1] W fun e w' => e = .returned (.tuple #[.agg #[.string yn, .int .i64 yv, .string yc, .int .i64 yp, .int .i64 ya, .bool yf, .int .i64 yt, .bool yg], .nilIface]) ∧ Below W.heap.size W w') := fun W h => HL.out.at' p S' _ 1 W w.heap.size h
      have A2 := hide (fun (x : Int) (W : World) (h : Slt W w.heap.size p S' ⟨⟨⟨xn, xv, xc, xp, xa⟩, xf, xt, xg⟩, ⟨⟨yn, yv, yc, yp, ya⟩, yf, yt, yg⟩, r⟩) => HL.out.at' p S' _ x W w.heap.size h)
      unfold slA at A2
      have PK := hide (fun (W : World) (h : Slt W w.heap.size p S' ⟨⟨⟨xn, xv, xc, xp, xa⟩, xf, xt, xg⟩, ⟨⟨yn, yv, yc, yp, ya⟩, yf, yt, yg⟩, r⟩) => HLP.out p S' _ W w.heap.size h)
      have PR := hide (fun (W : World) (h : SIs W w.heap.size g ⟨⟨⟨xn, xv, xc, xp, xa⟩, xf, xt, xg⟩, ⟨⟨yn, yv, yc, yp, ya⟩, yf, yt, yg⟩, r⟩) => pick_any g _ W w.heap.size h)
      have E3 := hide (show 0 ≤ d → errV 58 (atE (wrap64 (d + 2))) = .iface 58 (.int .i64 1) from fun h => by
        have h1 : ¬ (wrap64 (d + 2) = 0 ∨ wrap64 (d + 2) = 1) := by unfold wrap64; omega
        unfold atE
        rw [if_neg h1]
        rfl)
      generalize ht : (⟨⟨⟨xn, xv, xc, xp, xa⟩, xf, xt, xg⟩, ⟨⟨yn, yv, yc, yp, ya⟩, yf, yt, yg⟩, r⟩ : St) = t' at *
      have HT := hide ht
      clear ht
      generalize idx (pickT t') = pk at *
      go_wp2_with (fail)
      refine (A0.out _ HD2.out.n).mono ?_
      rintro e w2 ⟨rfl, hb2⟩
      have HDA := hide ((HD2.out.below HL.out hb2).alloc HL.out (.cells #[.string xn, .int .i64 xv, .string xc, .int .i64 xp, .int .i64 xa, .bool xf, .int .i64 xt, .bool xg] 35))
      clear hb2 HD2 A0
      go_wp2_with (fail)
      refine (A1.out _ HDA.out.n).mono ?_
      rintro e w3 ⟨rfl, hb3⟩
      have HDB := hide ((HDA.out.below HL.out hb3).alloc HL.out (.cells #[.string yn, .int .i64 yv, .string yc, .int .i64 yp, .int .i64 ya, .bool yf, .int .i64 yt, .bool yg] 35))
      clear hb3 HDA A1
      have hd3 := HC1.out _ HDB.out.lo
      go_wp2_with (fail)
      refine (A2.out _ _ HDB.out.n).mono ?_
      rintro e w4 ⟨rfl, hb4⟩
      have HDC0 := hide (HDB.out.below HL.out hb4)
      clear hb4 HDB A2 hd3
      generalize atL t' (wrap64 (d + 2)) = zl at *
      have HDC := hide (HDC0.out.below HL.out (below_new w4 (.cells #[.string zl.s.nm, .int .i64 zl.s.v, .string zl.s.cd, .int .i64 zl.s.p, .int .i64 zl.s.a, .bool zl.full, .int .i64 zl.tries, .bool zl.good] 35)))
      clear HDC0
      generalize hks : [(w3.heap.size, Obj.cells #[.string yn, .int .i64 yv, .string yc, .int .i64 yp, .int .i64 ya, .bool yf, .int .i64 yt, .bool yg] 35), (w2.heap.size, Obj.cells #[.string xn, .int .i64 xv, .string xc, .int .i64 xp, .int .i64 xa, .bool xf, .int .i64 xt, .bool xg] 35)] = ks at *
      have mA : (w2.heap.size, Obj.cells #[.string xn, .int .i64 xv, .string xc, .int .i64 xp, .int .i64 xa, .bool xf, .int .i64 xt, .bool xg] 35) ∈ ks := by rw [← hks]; simp
      have mQ : (w3.heap.size, Obj.cells #[.string yn, .int .i64 yv, .string yc, .int .i64 yp, .int .i64 ya, .bool yf, .int .i64 yt, .bool yg] 35) ∈ ks := by rw [← hks]; simp
      have MA := hide mA
      have MQ := hide mQ
      clear hks mA mQ
      have KS := hide (fun (W : World) (h : Duo Slt w w.heap.size p S' t' g t' ks W) => duo24 MA.out MQ.out HC1.out (HT.out ▸ h.m) h)
      have hDC := HDC.out
      obtain ⟨⟨x0, x1, x2, x3, x4, x5, x6, x7⟩, ⟨y0, y1, y2, y3, y4, y5, y6, y7⟩, ⟨g0, g1, g2, g3, g4, g5, g6, g7⟩, ⟨h0, h1, h2, h3, h4, h5, h6, h7⟩, hdd, _⟩ := KS.out _ hDC
      by_cases hdn : 0 ≤ d
      · rw [E3.out hdn]
        go_wp2_with (fail)
        go_region_held3 (fun W => (W.cell? ⟨w2.heap.size, 0, none⟩ = some (.string xn) ∧ W.cell? ⟨w2.heap.size, 1, none⟩ = some (.int .i64 xv) ∧ W.cell? ⟨w2.heap.size, 2, none⟩ = some (.string xc) ∧ W.cell? ⟨w2.heap.size, 3, none⟩ = some (.int .i64 xp) ∧ W.cell? ⟨w2.heap.size, 4, none⟩ = some (.int .i64 xa) ∧ W.cell? ⟨w2.heap.size, 5, none⟩ = some (.bool xf) ∧ W.cell? ⟨w2.heap.size, 6, none⟩ = some (.int .i64 xt) ∧ W.cell? ⟨w2.heap.size, 7, none⟩ = some (.bool xg)) ∧ (W.cell? ⟨w3.heap.size, 0, none⟩ = some (.string yn) ∧ W.cell? ⟨w3.heap.size, 1, none⟩ = some (.int .i64 yv) ∧ W.cell? ⟨w3.heap.size, 2, none⟩ = some (.string yc) ∧ W.cell? ⟨w3.heap.size, 3, none⟩ = some (.int .i64 yp) ∧ W.cell? ⟨w3.heap.size, 4, none⟩ = some (.int .i64 ya) ∧ W.cell? ⟨w3.heap.size, 5, none⟩ = some (.bool yf) ∧ W.cell? ⟨w3.heap.size, 6, none⟩ = some (.int .i64 yt) ∧ W.cell? ⟨w3.heap.size, 7, none⟩ = some (.bool yg)) ∧ (W.cell? ⟨g, 0, none⟩ = some (.string xn) ∧ W.cell? ⟨g, 1, none⟩ = some (.int .i64 xv) ∧ W.cell? ⟨g, 2, none⟩ = some (.string xc) ∧ W.cell? ⟨g, 3, none⟩ = some (.int .i64 xp) ∧ W.cell? ⟨g, 4, none⟩ = some (.int .i64 xa) ∧ W.cell? ⟨g, 5, none⟩ = some (.bool xf) ∧ W.cell? ⟨g, 6, none⟩ = some (.int .i64 xt) ∧ W.cell? ⟨g, 7, none⟩ = some (.bool xg)) ∧ (W.cell? ⟨g, 8, none⟩ = some (.string yn) ∧ W.cell? ⟨g, 9, none⟩ = some (.int .i64 yv) ∧ W.cell? ⟨g, 10, none⟩ = some (.string yc) ∧ W.cell? ⟨g, 11, none⟩ = some (.int .i64 yp) ∧ W.cell? ⟨g, 12, none⟩ = some (.int .i64 ya) ∧ W.cell? ⟨g, 13, none⟩ = some (.bool yf) ∧ W.cell? ⟨g, 14, none⟩ = some (.int .i64 yt) ∧ W.cell? ⟨g, 15, none⟩ = some (.bool yg)) ∧ W.cell? ⟨b1, o1 + i, none⟩ = some (.int .i64 d) ∧ Duo Slt w w.heap.size p S' t' g t' ks W)
          (exact KS.out _ (by repeat (first | assumption | apply Duo.drew HL.out)))
          (first
            | (go_at_call 10; refine (PK.out _ (Duo.n (by repeat (first | assumption | apply Duo.drew HL.out)))).mono ?_; rintro e w5 ⟨rfl, hb5⟩; have hD5 : Duo Slt w w.heap.size p S' t' g t' ks w5 := Duo.below HL.out (by repeat (first | assumption | apply Duo.drew HL.out)) hb5; clear hb5; obtain ⟨⟨x50, x51, x52, x53, x54, x55, x56, x57⟩, ⟨y50, y51, y52, y53, y54, y55, y56, y57⟩, ⟨g50, g51, g52, g53, g54, g55, g56, g57⟩, ⟨h50, h51, h52, h53, h54, h55, h56, h57⟩, hd5, _⟩ := KS.out _ hD5)
            | (go_at_call 18; refine (PR.out _ (Duo.m (by repeat (first | assumption | apply Duo.drew HL.out)))).mono ?_; rintro e w5 ⟨rfl, hb5⟩; have hD5 : Duo Slt w w.heap.size p S' t' g t' ks w5 := Duo.below HL.out (by repeat (first | assumption | apply Duo.drew HL.out)) hb5; clear hb5; obtain ⟨⟨x50, x51, x52, x53, x54, x55, x56, x57⟩, ⟨y50, y51, y52, y53, y54, y55, y56, y57⟩, ⟨g50, g51, g52, g53, g54, g55, g56, g57⟩, ⟨h50, h51, h52, h53, h54, h55, h56, h57⟩, hd5, _⟩ := KS.out _ hD5)
            | (go_at_call 9; refine (As.same_err 1 1 _ (HH.out _ (Duo.lo (by repeat (first | assumption | apply Duo.drew HL.out))))).mono ?_; rintro e w5 ⟨rfl, hb5⟩; have hD5 : Duo Slt w w.heap.size p S' t' g t' ks w5 := Duo.below HL.out (by repeat (first | assumption | apply Duo.drew HL.out)) hb5; clear hb5; obtain ⟨⟨x50, x51, x52, x53, x54, x55, x56, x57⟩, ⟨y50, y51, y52, y53, y54, y55, y56, y57⟩, ⟨g50, g51, g52, g53, g54, g55, g56, g57⟩, ⟨h50, h51, h52, h53, h54, h55, h56, h57⟩, hd5, _⟩ := KS.out _ hD5))
        all_goals
          go_wp2
          go_roundw
          case rel => exact ⟨i + 1, k', S', t', by omega, by omega, rfl, by go_num, Duo.less (ks := ks) (by repeat (first | assumption | apply Duo.drew HL.out)) (by intro x hx; cases hx)⟩
          case measure => simp [intOf]; omega
      · obtain ⟨m, rfl⟩ : ∃ m : Nat, d = Int.negSucc m := by
          cases d with
          | ofNat n => exact absurd (Int.natCast_nonneg n) hdn
          | negSucc m => exact ⟨m, rfl⟩
        generalize errV 58 (atE (wrap64 (Int.negSucc m + 2))) = ev at *
        go_wp2_with (fail)
        refine wp_region_held_drew (S := (fun W => (W.cell? ⟨w2.heap.size, 0, none⟩ = some (.string xn) ∧ W.cell? ⟨w2.heap.size, 1, none⟩ = some (.int .i64 xv) ∧ W.cell? ⟨w2.heap.size, 2, none⟩ = some (.string xc) ∧ W.cell? ⟨w2.heap.size, 3, none⟩ = some (.int .i64 xp) ∧ W.cell? ⟨w2.heap.size, 4, none⟩ = some (.int .i64 xa) ∧ W.cell? ⟨w2.heap.size, 5, none⟩ = some (.bool xf) ∧ W.cell? ⟨w2.heap.size, 6, none⟩ = some (.int .i64 xt) ∧ W.cell? ⟨w2.heap.size, 7, none⟩ = some (.bool xg)) ∧ (W.cell? ⟨w3.heap.size, 0, none⟩ = some (.string yn) ∧ W.cell? ⟨w3.heap.size, 1, none⟩ = some (.int .i64 yv) ∧ W.cell? ⟨w3.heap.size, 2, none⟩ = some (.string yc) ∧ W.cell? ⟨w3.heap.size, 3, none⟩ = some (.int .i64 yp) ∧ W.cell? ⟨w3.heap.size, 4, none⟩ = some (.int .i64 ya) ∧ W.cell? ⟨w3.heap.size, 5, none⟩ = some (.bool yf) ∧ W.cell? ⟨w3.heap.size, 6, none⟩ = some (.int .i64 yt) ∧ W.cell? ⟨w3.heap.size, 7, none⟩ = some (.bool yg)) ∧ (W.cell? ⟨g, 0, none⟩ = some (.string xn) ∧ W.cell? ⟨g, 1, none⟩ = some (.int .i64 xv) ∧ W.cell? ⟨g, 2, none⟩ = some (.string xc) ∧ W.cell? ⟨g, 3, none⟩ = some (.int .i64 xp) ∧ W.cell? ⟨g, 4, none⟩ = some (.int .i64 xa) ∧ W.cell? ⟨g, 5, none⟩ = some (.bool xf) ∧ W.cell? ⟨g, 6, none⟩ = some (.int .i64 xt) ∧ W.cell? ⟨g, 7, none⟩ = some (.bool xg)) ∧ (W.cell? ⟨g, 8, none⟩ = some (.string yn) ∧ W.cell? ⟨g, 9, none⟩ = some (.int .i64 yv) ∧ W.cell? ⟨g, 10, none⟩ = some (.string yc) ∧ W.cell? ⟨g, 11, none⟩ = some (.int .i64 yp) ∧ W.cell? ⟨g, 12, none⟩ = some (.int .i64 ya) ∧ W.cell? ⟨g, 13, none⟩ = some (.bool yf) ∧ W.cell? ⟨g, 14, none⟩ = some (.int .i64 yt) ∧ W.cell? ⟨g, 15, none⟩ = some (.bool yg)) ∧ W.cell? ⟨b1, o1 + i, none⟩ = some (.int .i64 (Int.negSucc m)) ∧ Duo Slt w w.heap.size p S' t' g t' ks W)) (by kernel_rfl) (KS.out _ (by repeat (first | assumption | apply Duo.drew HL.out))) (fun hHeld => ?_)
        refine' wpAnyH_take (i := 0) (oi := ?oix0) (v := ?vx0) ?h1x0 ?h2x0 ?h3x0 ?h4x0 ?h5x0 ?h6x0 ?h7x0 ?h8x0
        case h1x0 => (simp only [List.getElem?_toArray, List.getElem?_cons_succ, List.getElem?_cons_zero]; rfl)
        case h2x0 => kernel_rfl
        case h3x0 => kernel_rfl
        case h4x0 => kernel_rfl
        case h5x0 => exact fun _ _ _ h => h
        case h6x0 => exact Or.inl ⟨rfl, (by (intro w hSw; (try dsimp only at hSw); go_simp; try with_reducible rfl))⟩
        case h7x0 => exact hHeld
        try simp only [Act.put, List.setIfInBounds_toArray, List.set_cons_zero, List.set_cons_succ]
        refine' wpAnyH_take (i := 1) (oi := ?oix1) (v := ?vx1) ?h1x1 ?h2x1 ?h3x1 ?h4x1 ?h5x1 ?h6x1 ?h7x1 ?h8x1
        case h1x1 => (simp only [List.getElem?_toArray, List.getElem?_cons_succ, List.getElem?_cons_zero]; rfl)
        case h2x1 => kernel_rfl
        case h3x1 => kernel_rfl
        case h4x1 => kernel_rfl
        case h5x1 => exact fun _ _ _ h => h
        case h6x1 => exact Or.inl ⟨rfl, (by (intro w hSw; (try dsimp only at hSw); go_simp; try with_reducible rfl))⟩
        case h7x1 => exact hHeld
        try simp only [Act.put, List.setIfInBounds_toArray, List.set_cons_zero, List.set_cons_succ]
        refine' wpAnyH_take (i := 2) (oi := ?oix2) (v := ?vx2) ?h1x2 ?h2x2 ?h3x2 ?h4x2 ?h5x2 ?h6x2 ?h7x2 ?h8x2
        case h1x2 => (simp only [List.getElem?_toArray, List.getElem?_cons_succ, List.getElem?_cons_zero]; rfl)
        case h2x2 => kernel_rfl
        case h3x2 => kernel_rfl
        case h4x2 => kernel_rfl
        case h5x2 => exact fun _ _ _ h => h
        case h6x2 => exact Or.inl ⟨rfl, (by (intro w hSw; (try dsimp only at hSw); go_simp; try with_reducible rfl))⟩
        case h7x2 => exact hHeld
        try simp only [Act.put, List.setIfInBounds_toArray, List.set_cons_zero, List.set_cons_succ]
        refine' wpAnyH_take (i := 3) (oi := ?oix3) (v := ?vx3) ?h1x3 ?h2x3 ?h3x3 ?h4x3 ?h5x3 ?h6x3 ?h7x3 ?h8x3
        case h1x3 => (simp only [List.getElem?_toArray, List.getElem?_cons_succ, List.getElem?_cons_zero]; rfl)
        case h2x3 => kernel_rfl
        case h3x3 => kernel_rfl
        case h4x3 => kernel_rfl
        case h5x3 => exact fun _ _ _ h => h
        case h6x3 => exact Or.inl ⟨rfl, (by (intro w hSw; (try dsimp only at hSw); go_simp; try with_reducible rfl))⟩
        case h7x3 => exact hHeld
        try simp only [Act.put, List.setIfInBounds_toArray, List.set_cons_zero, List.set_cons_succ]
        refine' wpAnyH_take (i := 5) (oi := ?oix5) (v := ?vx5) ?h1x5 ?h2x5 ?h3x5 ?h4x5 ?h5x5 ?h6x5 ?h7x5 ?h8x5
        case h1x5 => (simp only [List.getElem?_toArray, List.getElem?_cons_succ, List.getElem?_cons_zero]; rfl)
        case h2x5 => kernel_rfl
        case h3x5 => kernel_rfl
        case h4x5 => kernel_rfl
        case h5x5 => exact fun _ _ _ h => h
        case h6x5 => exact Or.inl ⟨rfl, (by (intro w hSw; (try dsimp only at hSw); go_simp; try with_reducible rfl))⟩
        case h7x5 => exact hHeld
        try simp only [Act.put, List.setIfInBounds_toArray, List.set_cons_zero, List.set_cons_succ]
        refine wpAnyH_ready (rs := [4]) (by kernel_rfl) (by simp) ?_
        refine' AllReadyH.cons (o := ?oox4) ?h1x4 (fun K hK => ?h2x4) AllReadyH.nil
        case h1x4 => (simp only [List.getElem?_toArray, List.getElem?_cons_succ, List.getElem?_cons_zero]; rfl)
        go_simp
        go_at_call 10
        refine (PK.out _ (Duo.n (by repeat (first | assumption | apply Duo.drew HL.out)))).mono ?_
        rintro e w5 ⟨rfl, hb5⟩
        have hD5 : Duo Slt w w.heap.size p S' t' g t' ks w5 := Duo.below HL.out (by repeat (first | assumption | apply Duo.drew HL.out)) hb5
        clear hb5
        obtain ⟨⟨x50, x51, x52, x53, x54, x55, x56, x57⟩, ⟨y50, y51, y52, y53, y54, y55, y56, y57⟩, ⟨g50, g51, g52, g53, g54, g55, g56, g57⟩, ⟨h50, h51, h52, h53, h54, h55, h56, h57⟩, hd5, _⟩ := KS.out _ hD5
        clear hHeld
        refine hK.out _ _ (KS.out _ hD5) (fun hHeld => ?_)
        clear hK K
        try simp only [Act.put, List.setIfInBounds_toArray, List.set_cons_zero, List.set_cons_succ]
        refine wpAnyH_ready (rs := [6]) (by kernel_rfl) (by simp) ?_
        refine' AllReadyH.cons (o := ?oox6) ?h1x6 (fun K hK => ?h2x6) AllReadyH.nil
        case h1x6 => (simp only [List.getElem?_toArray, List.getElem?_cons_succ, List.getElem?_cons_zero]; rfl)
        go_simp
        go_at_call 18
        refine (PR.out _ (Duo.m (by repeat (first | assumption | apply Duo.drew HL.out)))).mono ?_
        rintro e w5 ⟨rfl, hb5⟩
        have hD5 : Duo Slt w w.heap.size p S' t' g t' ks w5 := Duo.below HL.out (by repeat (first | assumption | apply Duo.drew HL.out)) hb5
        clear hb5
        obtain ⟨⟨x50, x51, x52, x53, x54, x55, x56, x57⟩, ⟨y50, y51, y52, y53, y54, y55, y56, y57⟩, ⟨g50, g51, g52, g53, g54, g55, g56, g57⟩, ⟨h50, h51, h52, h53, h54, h55, h56, h57⟩, hd5, _⟩ := KS.out _ hD5
        clear hHeld
        refine hK.out _ _ (KS.out _ hD5) (fun hHeld => ?_)
        clear hK K
        try simp only [Act.put, List.setIfInBounds_toArray, List.set_cons_zero, List.set_cons_succ]
        refine' wpAnyH_take (i := 7) (oi := ?oix7) (v := ?vx7) ?h1x7 ?h2x7 ?h3x7 ?h4x7 ?h5x7 ?h6x7 ?h7x7 ?h8x7
        case h1x7 => (simp only [List.getElem?_toArray, List.getElem?_cons_succ, List.getElem?_cons_zero]; rfl)
        case h2x7 => kernel_rfl
        case h3x7 => kernel_rfl
        case h4x7 => kernel_rfl
        case h5x7 => exact fun _ _ _ h => h
        case h6x7 => exact Or.inl ⟨rfl, (by (intro w hSw; (try dsimp only at hSw); go_simp; try with_reducible rfl))⟩
        case h7x7 => exact hHeld
        try simp only [Act.put, List.setIfInBounds_toArray, List.set_cons_zero, List.set_cons_succ]
        refine' wpAnyH_take (i := 8) (oi := ?oix8) (v := ?vx8) ?h1x8 ?h2x8 ?h3x8 ?h4x8 ?h5x8 ?h6x8 ?h7x8 ?h8x8
        case h1x8 => (simp only [List.getElem?_toArray, List.getElem?_cons_succ, List.getElem?_cons_zero]; rfl)
        case h2x8 => kernel_rfl
        case h3x8 => kernel_rfl
        case h4x8 => kernel_rfl
        case h5x8 => exact fun _ _ _ h => h
        case h6x8 => exact Or.inl ⟨rfl, (by (intro w hSw; (try dsimp only at hSw); go_simp; try with_reducible rfl))⟩
        case h7x8 => exact hHeld
        try simp only [Act.put, List.setIfInBounds_toArray, List.set_cons_zero, List.set_cons_succ]
        refine' wpAnyH_take (i := 9) (oi := ?oix9) (v := ?vx9) ?h1x9 ?h2x9 ?h3x9 ?h4x9 ?h5x9 ?h6x9 ?h7x9 ?h8x9
        case h1x9 => (simp only [List.getElem?_toArray, List.getElem?_cons_succ, List.getElem?_cons_zero]; rfl)
        case h2x9 => kernel_rfl
        case h3x9 => kernel_rfl
        case h4x9 => kernel_rfl
        case h5x9 => exact fun _ _ _ h => h
        case h6x9 => exact Or.inl ⟨rfl, (by (intro w hSw; (try dsimp only at hSw); go_simp; try with_reducible rfl))⟩
        case h7x9 => exact hHeld
        try simp only [Act.put, List.setIfInBounds_toArray, List.set_cons_zero, List.set_cons_succ]
        refine' wpAnyH_take (i := 10) (oi := ?oix10) (v := ?vx10) ?h1x10 ?h2x10 ?h3x10 ?h4x10 ?h5x10 ?h6x10 ?h7x10 ?h8x10
        case h1x10 => (simp only [List.getElem?_toArray, List.getElem?_cons_succ, List.getElem?_cons_zero]; rfl)
        case h2x10 => kernel_rfl
        case h3x10 => kernel_rfl
        case h4x10 => kernel_rfl
        case h5x10 => exact fun _ _ _ h => h
        case h6x10 => exact Or.inl ⟨rfl, (by (intro w hSw; (try dsimp only at hSw); go_simp; try with_reducible rfl))⟩
        case h7x10 => exact hHeld
        try simp only [Act.put, List.setIfInBounds_toArray, List.set_cons_zero, List.set_cons_succ]
        refine' wpAnyH_take (i := 11) (oi := ?oix11) (v := ?vx11) ?h1x11 ?h2x11 ?h3x11 ?h4x11 ?h5x11 ?h6x11 ?h7x11 ?h8x11
        case h1x11 => (simp only [List.getElem?_toArray, List.getElem?_cons_succ, List.getElem?_cons_zero]; rfl)
        case h2x11 => kernel_rfl
        case h3x11 => kernel_rfl
        case h4x11 => kernel_rfl
        case h5x11 => exact fun _ _ _ h => h
        case h6x11 => exact Or.inl ⟨rfl, (by (intro w hSw; (try dsimp only at hSw); go_simp; try with_reducible rfl))⟩
        case h7x11 => exact hHeld
        try simp only [Act.put, List.setIfInBounds_toArray, List.set_cons_zero, List.set_cons_succ]
        refine' wpAnyH_take (i := 12) (oi := ?oix12) (v := ?vx12) ?h1x12 ?h2x12 ?h3x12 ?h4x12 ?h5x12 ?h6x12 ?h7x12 ?h8x12
        case h1x12 => (simp only [List.getElem?_toArray, List.getElem?_cons_succ, List.getElem?_cons_zero]; rfl)
        case h2x12 => kernel_rfl
        case h3x12 => kernel_rfl
        case h4x12 => kernel_rfl
        case h5x12 => exact fun _ _ _ h => h
        case h6x12 => exact Or.inl ⟨rfl, (by (intro w hSw; (try dsimp only at hSw); go_simp; try with_reducible rfl))⟩
        case h7x12 => exact hHeld
        try simp only [Act.put, List.setIfInBounds_toArray, List.set_cons_zero, List.set_cons_succ]
        refine' wpAnyH_take (i := 13) (oi := ?oix13) (v := ?vx13) ?h1x13 ?h2x13 ?h3x13 ?h4x13 ?h5x13 ?h6x13 ?h7x13 ?h8x13
        case h1x13 => (simp only [List.getElem?_toArray, List.getElem?_cons_succ, List.getElem?_cons_zero]; rfl)
        case h2x13 => kernel_rfl
        case h3x13 => kernel_rfl
        case h4x13 => kernel_rfl
        case h5x13 => exact fun _ _ _ h => h
        case h6x13 => exact Or.inl ⟨rfl, (by (intro w hSw; (try dsimp only at hSw); go_simp; try with_reducible rfl))⟩
        case h7x13 => exact hHeld
        try simp only [Act.put, List.setIfInBounds_toArray, List.set_cons_zero, List.set_cons_succ]
        refine' wpAnyH_take (i := 14) (oi := ?oix14) (v := ?vx14) ?h1x14 ?h2x14 ?h3x14 ?h4x14 ?h5x14 ?h6x14 ?h7x14 ?h8x14
        case h1x14 => (simp only [List.getElem?_toArray, List.getElem?_cons_succ, List.getElem?_cons_zero]; rfl)
        case h2x14 => kernel_rfl
        case h3x14 => kernel_rfl
        case h4x14 => kernel_rfl
        case h5x14 => exact fun _ _ _ h => h
        case h6x14 => exact Or.inl ⟨rfl, (by (intro w hSw; (try dsimp only at hSw); go_simp; try with_reducible rfl))⟩
        case h7x14 => exact hHeld
        try simp only [Act.put, List.setIfInBounds_toArray, List.set_cons_zero, List.set_cons_succ]
        refine' wpAnyH_take (i := 15) (oi := ?oix15) (v := ?vx15) ?h1x15 ?h2x15 ?h3x15 ?h4x15 ?h5x15 ?h6x15 ?h7x15 ?h8x15
        case h1x15 => (simp only [List.getElem?_toArray, List.getElem?_cons_succ, List.getElem?_cons_zero]; rfl)
        case h2x15 => kernel_rfl
        case h3x15 => kernel_rfl
        case h4x15 => kernel_rfl
        case h5x15 => exact fun _ _ _ h => h
        case h6x15 => exact Or.inl ⟨rfl, (by (intro w hSw; (try dsimp only at hSw); go_simp; try with_reducible rfl))⟩
        case h7x15 => exact hHeld
        try simp only [Act.put, List.setIfInBounds_toArray, List.set_cons_zero, List.set_cons_succ]
        refine' wpAnyH_take (i := 16) (oi := ?oix16) (v := ?vx16) ?h1x16 ?h2x16 ?h3x16 ?h4x16 ?h5x16 ?h6x16 ?h7x16 ?h8x16
        case h1x16 => (simp only [List.getElem?_toArray, List.getElem?_cons_succ, List.getElem?_cons_zero]; rfl)
        case h2x16 => kernel_rfl
        case h3x16 => kernel_rfl
        case h4x16 => kernel_rfl
        case h5x16 => exact fun _ _ _ h => h
        case h6x16 => exact Or.inl ⟨rfl, (by (intro w hSw; (try dsimp only at hSw); go_simp; try with_reducible rfl))⟩
        case h7x16 => exact hHeld
        try simp only [Act.put, List.setIfInBounds_toArray, List.set_cons_zero, List.set_cons_succ]
        refine' wpAnyH_take (i := 17) (oi := ?oix17) (v := ?vx17) ?h1x17 ?h2x17 ?h3x17 ?h4x17 ?h5x17 ?h6x17 ?h7x17 ?h8x17
        case h1x17 => (simp only [List.getElem?_toArray, List.getElem?_cons_succ, List.getElem?_cons_zero]; rfl)
        case h2x17 => kernel_rfl
        case h3x17 => kernel_rfl
        case h4x17 => kernel_rfl
        case h5x17 => exact fun _ _ _ h => h
        case h6x17 => exact Or.inl ⟨rfl, (by (intro w hSw; (try dsimp only at hSw); go_simp; try with_reducible rfl))⟩
        case h7x17 => exact hHeld
        try simp only [Act.put, List.setIfInBounds_toArray, List.set_cons_zero, List.set_cons_succ]
        refine' wpAnyH_take (i := 18) (oi := ?oix18) (v := ?vx18) ?h1x18 ?h2x18 ?h3x18 ?h4x18 ?h5x18 ?h6x18 ?h7x18 ?h8x18
        case h1x18 => (simp only [List.getElem?_toArray, List.getElem?_cons_succ, List.getElem?_cons_zero]; rfl)
        case h2x18 => kernel_rfl
        case h3x18 => kernel_rfl
        case h4x18 => kernel_rfl
        case h5x18 => exact fun _ _ _ h => h
        case h6x18 => exact Or.inl ⟨rfl, (by (intro w hSw; (try dsimp only at hSw); go_simp; try with_reducible rfl))⟩
        case h7x18 => exact hHeld
        try simp only [Act.put, List.setIfInBounds_toArray, List.set_cons_zero, List.set_cons_succ]
        refine' wpAnyH_take (i := 19) (oi := ?oix19) (v := ?vx19) ?h1x19 ?h2x19 ?h3x19 ?h4x19 ?h5x19 ?h6x19 ?h7x19 ?h8x19
        case h1x19 => (simp only [List.getElem?_toArray, List.getElem?_cons_succ, List.getElem?_cons_zero]; rfl)
        case h2x19 => kernel_rfl
        case h3x19 => kernel_rfl
        case h4x19 => kernel_rfl
        case h5x19 => exact fun _ _ _ h => h
        case h6x19 => exact Or.inl ⟨rfl, (by (intro w hSw; (try dsimp only at hSw); go_simp; try with_reducible rfl))⟩
        case h7x19 => exact hHeld
        try simp only [Act.put, List.setIfInBounds_toArray, List.set_cons_zero, List.set_cons_succ]
        refine' wpAnyH_take (i := 20) (oi := ?oix20) (v := ?vx20) ?h1x20 ?h2x20 ?h3x20 ?h4x20 ?h5x20 ?h6x20 ?h7x20 ?h8x20
        case h1x20 => (simp only [List.getElem?_toArray, List.getElem?_cons_succ, List.getElem?_cons_zero]; rfl)
        case h2x20 => kernel_rfl
        case h3x20 => kernel_rfl
        case h4x20 => kernel_rfl
        case h5x20 => exact fun _ _ _ h => h
        case h6x20 => exact Or.inl ⟨rfl, (by (intro w hSw; (try dsimp only at hSw); go_simp; try with_reducible rfl))⟩
        case h7x20 => exact hHeld
        try simp only [Act.put, List.setIfInBounds_toArray, List.set_cons_zero, List.set_cons_succ]
        refine' wpAnyH_take (i := 21) (oi := ?oix21) (v := ?vx21) ?h1x21 ?h2x21 ?h3x21 ?h4x21 ?h5x21 ?h6x21 ?h7x21 ?h8x21
        case h1x21 => (simp only [List.getElem?_toArray, List.getElem?_cons_succ, List.getElem?_cons_zero]; rfl)
        case h2x21 => kernel_rfl
        case h3x21 => kernel_rfl
        case h4x21 => kernel_rfl
        case h5x21 => exact fun _ _ _ h => h
        case h6x21 => exact Or.inl ⟨rfl, (by (intro w hSw; (try dsimp only at hSw); go_simp; try with_reducible rfl))⟩
        case h7x21 => exact hHeld
        try simp only [Act.put, List.setIfInBounds_toArray, List.set_cons_zero, List.set_cons_succ]
        refine' wpAnyH_take (i := 22) (oi := ?oix22) (v := ?vx22) ?h1x22 ?h2x22 ?h3x22 ?h4x22 ?h5x22 ?h6x22 ?h7x22 ?h8x22
        case h1x22 => (simp only [List.getElem?_toArray, List.getElem?_cons_succ, List.getElem?_cons_zero]; rfl)
        case h2x22 => kernel_rfl
        case h3x22 => kernel_rfl
        case h4x22 => kernel_rfl
        case h5x22 => exact fun _ _ _ h => h
        case h6x22 => exact Or.inl ⟨rfl, (by (intro w hSw; (try dsimp only at hSw); go_simp; try with_reducible rfl))⟩
        case h7x22 => exact hHeld
        try simp only [Act.put, List.setIfInBounds_toArray, List.set_cons_zero, List.set_cons_succ]
        refine' wpAnyH_take (i := 23) (oi := ?oix23) (v := ?vx23) ?h1x23 ?h2x23 ?h3x23 ?h4x23 ?h5x23 ?h6x23 ?h7x23 ?h8x23
        case h1x23 => (simp only [List.getElem?_toArray, List.getElem?_cons_succ, List.getElem?_cons_zero]; rfl)
        case h2x23 => kernel_rfl
        case h3x23 => kernel_rfl
        case h4x23 => kernel_rfl
        case h5x23 => exact fun _ _ _ h => h
        case h6x23 => exact Or.inl ⟨rfl, (by (intro w hSw; (try dsimp only at hSw); go_simp; try with_reducible rfl))⟩
        case h7x23 => exact hHeld
        try simp only [Act.put, List.setIfInBounds_toArray, List.set_cons_zero, List.set_cons_succ]
        refine' wpAnyH_take (i := 24) (oi := ?oix24) (v := ?vx24) ?h1x24 ?h2x24 ?h3x24 ?h4x24 ?h5x24 ?h6x24 ?h7x24 ?h8x24
        case h1x24 => (simp only [List.getElem?_toArray, List.getElem?_cons_succ, List.getElem?_cons_zero]; rfl)
        case h2x24 => kernel_rfl
        case h3x24 => kernel_rfl
        case h4x24 => kernel_rfl
        case h5x24 => exact fun _ _ _ h => h
        case h6x24 => exact Or.inl ⟨rfl, (by (intro w hSw; (try dsimp only at hSw); go_simp; try with_reducible rfl))⟩
        case h7x24 => exact hHeld
        try simp only [Act.put, List.setIfInBounds_toArray, List.set_cons_zero, List.set_cons_succ]
        refine' wpAnyH_take (i := 25) (oi := ?oix25) (v := ?vx25) ?h1x25 ?h2x25 ?h3x25 ?h4x25 ?h5x25 ?h6x25 ?h7x25 ?h8x25
        case h1x25 => (simp only [List.getElem?_toArray, List.getElem?_cons_succ, List.getElem?_cons_zero]; rfl)
        case h2x25 => kernel_rfl
        case h3x25 => kernel_rfl
        case h4x25 => kernel_rfl
        case h5x25 => exact fun _ _ _ h => h
        case h6x25 => exact Or.inl ⟨rfl, (by (intro w hSw; (try dsimp only at hSw); go_simp; try with_reducible rfl))⟩
        case h7x25 => exact hHeld
        try simp only [Act.put, List.setIfInBounds_toArray, List.set_cons_zero, List.set_cons_succ]
        refine' wpAnyH_take (i := 26) (oi := ?oix26) (v := ?vx26) ?h1x26 ?h2x26 ?h3x26 ?h4x26 ?h5x26 ?h6x26 ?h7x26 ?h8x26
        case h1x26 => (simp only [List.getElem?_toArray, List.getElem?_cons_succ, List.getElem?_cons_zero]; rfl)
        case h2x26 => kernel_rfl
        case h3x26 => kernel_rfl
        case h4x26 => kernel_rfl
        case h5x26 => exact fun _ _ _ h => h
        case h6x26 => exact Or.inl ⟨rfl, (by (intro w hSw; (try dsimp only at hSw); go_simp; try with_reducible rfl))⟩
        case h7x26 => exact hHeld
        try simp only [Act.put, List.setIfInBounds_toArray, List.set_cons_zero, List.set_cons_succ]
        refine' wpAnyH_take (i := 27) (oi := ?oix27) (v := ?vx27) ?h1x27 ?h2x27 ?h3x27 ?h4x27 ?h5x27 ?h6x27 ?h7x27 ?h8x27
        case h1x27 => (simp only [List.getElem?_toArray, List.getElem?_cons_succ, List.getElem?_cons_zero]; rfl)
        case h2x27 => kernel_rfl
        case h3x27 => kernel_rfl
        case h4x27 => kernel_rfl
        case h5x27 => exact fun _ _ _ h => h
        case h6x27 => exact Or.inl ⟨rfl, (by (intro w hSw; (try dsimp only at hSw); go_simp; try with_reducible rfl))⟩
        case h7x27 => exact hHeld
        try simp only [Act.put, List.setIfInBounds_toArray, List.set_cons_zero, List.set_cons_succ]
        refine' wpAnyH_take (i := 28) (oi := ?oix28) (v := ?vx28) ?h1x28 ?h2x28 ?h3x28 ?h4x28 ?h5x28 ?h6x28 ?h7x28 ?h8x28
        case h1x28 => (simp only [List.getElem?_toArray, List.getElem?_cons_succ, List.getElem?_cons_zero]; rfl)
        case h2x28 => kernel_rfl
        case h3x28 => kernel_rfl
        case h4x28 => kernel_rfl
        case h5x28 => exact fun _ _ _ h => h
        case h6x28 => exact Or.inl ⟨rfl, (by (intro w hSw; (try dsimp only at hSw); go_simp; try with_reducible rfl))⟩
        case h7x28 => exact hHeld
        try simp only [Act.put, List.setIfInBounds_toArray, List.set_cons_zero, List.set_cons_succ]
        refine' wpAnyH_take (i := 29) (oi := ?oix29) (v := ?vx29) ?h1x29 ?h2x29 ?h3x29 ?h4x29 ?h5x29 ?h6x29 ?h7x29 ?h8x29
        case h1x29 => (simp only [List.getElem?_toArray, List.getElem?_cons_succ, List.getElem?_cons_zero]; rfl)
        case h2x29 => kernel_rfl
        case h3x29 => kernel_rfl
        case h4x29 => kernel_rfl
        case h5x29 => exact fun _ _ _ h => h
        case h6x29 => exact Or.inl ⟨rfl, (by (intro w hSw; (try dsimp only at hSw); go_simp; try with_reducible rfl))⟩
        case h7x29 => exact hHeld
        try simp only [Act.put, List.setIfInBounds_toArray, List.set_cons_zero, List.set_cons_succ]
        refine' wpAnyH_take (i := 30) (oi := ?oix30) (v := ?vx30) ?h1x30 ?h2x30 ?h3x30 ?h4x30 ?h5x30 ?h6x30 ?h7x30 ?h8x30
        case h1x30 => (simp only [List.getElem?_toArray, List.getElem?_cons_succ, List.getElem?_cons_zero]; rfl)
        case h2x30 => kernel_rfl
        case h3x30 => kernel_rfl
        case h4x30 => kernel_rfl
        case h5x30 => exact fun _ _ _ h => h
        case h6x30 => exact Or.inl ⟨rfl, (by (intro w hSw; (try dsimp only at hSw); go_simp; try with_reducible rfl))⟩
        case h7x30 => exact hHeld
        try simp only [Act.put, List.setIfInBounds_toArray, List.set_cons_zero, List.set_cons_succ]
        refine' wpAnyH_take (i := 31) (oi := ?oix31) (v := ?vx31) ?h1x31 ?h2x31 ?h3x31 ?h4x31 ?h5x31 ?h6x31 ?h7x31 ?h8x31
        case h1x31 => (simp only [List.getElem?_toArray, List.getElem?_cons_succ, List.getElem?_cons_zero]; rfl)
        case h2x31 => kernel_rfl
        case h3x31 => kernel_rfl
        case h4x31 => kernel_rfl
        case h5x31 => exact fun _ _ _ h => h
        case h6x31 => exact Or.inl ⟨rfl, (by (intro w hSw; (try dsimp only at hSw); go_simp; try with_reducible rfl))⟩
        case h7x31 => exact hHeld
        try simp only [Act.put, List.setIfInBounds_toArray, List.set_cons_zero, List.set_cons_succ]
        refine' wpAnyH_take (i := 32) (oi := ?oix32) (v := ?vx32) ?h1x32 ?h2x32 ?h3x32 ?h4x32 ?h5x32 ?h6x32 ?h7x32 ?h8x32
        case h1x32 => (simp only [List.getElem?_toArray, List.getElem?_cons_succ, List.getElem?_cons_zero]; rfl)
        case h2x32 => kernel_rfl
        case h3x32 => kernel_rfl
        case h4x32 => kernel_rfl
        case h5x32 => exact fun _ _ _ h => h
        case h6x32 => exact Or.inl ⟨rfl, (by (intro w hSw; (try dsimp only at hSw); go_simp; try with_reducible rfl))⟩
        case h7x32 => exact hHeld
        try simp only [Act.put, List.setIfInBounds_toArray, List.set_cons_zero, List.set_cons_succ]
        refine' wpAnyH_take (i := 33) (oi := ?oix33) (v := ?vx33) ?h1x33 ?h2x33 ?h3x33 ?h4x33 ?h5x33 ?h6x33 ?h7x33 ?h8x33
        case h1x33 => (simp only [List.getElem?_toArray, List.getElem?_cons_succ, List.getElem?_cons_zero]; rfl)
        case h2x33 => kernel_rfl
        case h3x33 => kernel_rfl
        case h4x33 => kernel_rfl
        case h5x33 => exact fun _ _ _ h => h
        case h6x33 => exact Or.inl ⟨rfl, (by (intro w hSw; (try dsimp only at hSw); go_simp; try with_reducible rfl))⟩
        case h7x33 => exact hHeld
        try simp only [Act.put, List.setIfInBounds_toArray, List.set_cons_zero, List.set_cons_succ]
        refine' wpAnyH_take (i := 34) (oi := ?oix34) (v := ?vx34) ?h1x34 ?h2x34 ?h3x34 ?h4x34 ?h5x34 ?h6x34 ?h7x34 ?h8x34
        case h1x34 => (simp only [List.getElem?_toArray, List.getElem?_cons_succ, List.getElem?_cons_zero]; rfl)
        case h2x34 => kernel_rfl
        case h3x34 => kernel_rfl
        case h4x34 => kernel_rfl
        case h5x34 => exact fun _ _ _ h => h
        case h6x34 => exact Or.inl ⟨rfl, (by (intro w hSw; (try dsimp only at hSw); go_simp; try with_reducible rfl))⟩
        case h7x34 => exact hHeld
        try simp only [Act.put, List.setIfInBounds_toArray, List.set_cons_zero, List.set_cons_succ]
        refine' wpAnyH_take (i := 35) (oi := ?oix35) (v := ?vx35) ?h1x35 ?h2x35 ?h3x35 ?h4x35 ?h5x35 ?h6x35 ?h7x35 ?h8x35
        case h1x35 => (simp only [List.getElem?_toArray, List.getElem?_cons_succ, List.getElem?_cons_zero]; rfl)
        case h2x35 => kernel_rfl
        case h3x35 => kernel_rfl
        case h4x35 => kernel_rfl
        case h5x35 => exact fun _ _ _ h => h
        case h6x35 => exact Or.inl ⟨rfl, (by (intro w hSw; (try dsimp only at hSw); go_simp; try with_reducible rfl))⟩
        case h7x35 => exact hHeld
        try simp only [Act.put, List.setIfInBounds_toArray, List.set_cons_zero, List.set_cons_succ]
        refine' wpAnyH_take (i := 36) (oi := ?oix36) (v := ?vx36) ?h1x36 ?h2x36 ?h3x36 ?h4x36 ?h5x36 ?h6x36 ?h7x36 ?h8x36
        case h1x36 => (simp only [List.getElem?_toArray, List.getElem?_cons_succ, List.getElem?_cons_zero]; rfl)
        case h2x36 => kernel_rfl
        case h3x36 => kernel_rfl
        case h4x36 => kernel_rfl
        case h5x36 => exact fun _ _ _ h => h
        case h6x36 => exact Or.inl ⟨rfl, (by (intro w hSw; (try dsimp only at hSw); go_simp; try with_reducible rfl))⟩
        case h7x36 => exact hHeld
        try simp only [Act.put, List.setIfInBounds_toArray, List.set_cons_zero, List.set_cons_succ]
        refine' wpAnyH_take (i := 37) (oi := ?oix37) (v := ?vx37) ?h1x37 ?h2x37 ?h3x37 ?h4x37 ?h5x37 ?h6x37 ?h7x37 ?h8x37
        case h1x37 => (simp only [List.getElem?_toArray, List.getElem?_cons_succ, List.getElem?_cons_zero]; rfl)
        case h2x37 => kernel_rfl
        case h3x37 => kernel_rfl
        case h4x37 => kernel_rfl
        case h5x37 => exact fun _ _ _ h => h
        case h6x37 => exact Or.inl ⟨rfl, (by (intro w hSw; (try dsimp only at hSw); go_simp; try with_reducible rfl))⟩
        case h7x37 => exact hHeld
        try simp only [Act.put, List.setIfInBounds_toArray, List.set_cons_zero, List.set_cons_succ]
        refine' wpAnyH_take (i := 38) (oi := ?oix38) (v := ?vx38) ?h1x38 ?h2x38 ?h3x38 ?h4x38 ?h5x38 ?h6x38 ?h7x38 ?h8x38
        case h1x38 => (simp only [List.getElem?_toArray, List.getElem?_cons_succ, List.getElem?_cons_zero]; rfl)
        case h2x38 => kernel_rfl
        case h3x38 => kernel_rfl
        case h4x38 => kernel_rfl
        case h5x38 => exact fun _ _ _ h => h
        case h6x38 => exact Or.inl ⟨rfl, (by (intro w hSw; (try dsimp only at hSw); go_simp; try with_reducible rfl))⟩
        case h7x38 => exact hHeld
        try simp only [Act.put, List.setIfInBounds_toArray, List.set_cons_zero, List.set_cons_succ]
        refine' wpAnyH_take (i := 39) (oi := ?oix39) (v := ?vx39) ?h1x39 ?h2x39 ?h3x39 ?h4x39 ?h5x39 ?h6x39 ?h7x39 ?h8x39
        case h1x39 => (simp only [List.getElem?_toArray, List.getElem?_cons_succ, List.getElem?_cons_zero]; rfl)
        case h2x39 => kernel_rfl
        case h3x39 => kernel_rfl
        case h4x39 => kernel_rfl
        case h5x39 => exact fun _ _ _ h => h
        case h6x39 => exact Or.inl ⟨rfl, (by (intro w hSw; (try dsimp only at hSw); go_simp; try with_reducible rfl))⟩
        case h7x39 => exact hHeld
        try simp only [Act.put, List.setIfInBounds_toArray, List.set_cons_zero, List.set_cons_succ]
        refine' wpAnyH_take (i := 40) (oi := ?oix40) (v := ?vx40) ?h1x40 ?h2x40 ?h3x40 ?h4x40 ?h5x40 ?h6x40 ?h7x40 ?h8x40
        case h1x40 => (simp only [List.getElem?_toArray, List.getElem?_cons_succ, List.getElem?_cons_zero]; rfl)
        case h2x40 => kernel_rfl
        case h3x40 => kernel_rfl
        case h4x40 => kernel_rfl
        case h5x40 => exact fun _ _ _ h => h
        case h6x40 => exact Or.inl ⟨rfl, (by (intro w hSw; (try dsimp only at hSw); go_simp; try with_reducible rfl))⟩
        case h7x40 => exact hHeld
        try simp only [Act.put, List.setIfInBounds_toArray, List.set_cons_zero, List.set_cons_succ]
        refine' wpAnyH_take (i := 41) (oi := ?oix41) (v := ?vx41) ?h1x41 ?h2x41 ?h3x41 ?h4x41 ?h5x41 ?h6x41 ?h7x41 ?h8x41
        case h1x41 => (simp only [List.getElem?_toArray, List.getElem?_cons_succ, List.getElem?_cons_zero]; rfl)
        case h2x41 => kernel_rfl
        case h3x41 => kernel_rfl
        case h4x41 => kernel_rfl
        case h5x41 => exact fun _ _ _ h => h
        case h6x41 => exact Or.inl ⟨rfl, (by (intro w hSw; (try dsimp only at hSw); go_simp; try with_reducible rfl))⟩
        case h7x41 => exact hHeld
        try simp only [Act.put, List.setIfInBounds_toArray, List.set_cons_zero, List.set_cons_succ]
        refine' wpAnyH_take (i := 42) (oi := ?oix42) (v := undef) ?h1x42 ?h2x42 ?h3x42 ?h4x42 ?h5x42 ?h6x42 ?h7x42 ?h8x42
        case h1x42 => (simp only [List.getElem?_toArray, List.getElem?_cons_succ, List.getElem?_cons_zero]; rfl)
        case h2x42 => kernel_rfl
        case h3x42 => kernel_rfl
        case h4x42 => kernel_rfl
        case h5x42 => exact fun _ _ _ h => h
        case h6x42 => exact Or.inr ⟨rfl, rfl⟩
        case h7x42 => exact hHeld
        try simp only [Act.put, List.setIfInBounds_toArray, List.set_cons_zero, List.set_cons_succ]
        refine' wpAnyH_take (i := 43) (oi := ?oix43) (v := undef) ?h1x43 ?h2x43 ?h3x43 ?h4x43 ?h5x43 ?h6x43 ?h7x43 ?h8x43
        case h1x43 => (simp only [List.getElem?_toArray, List.getElem?_cons_succ, List.getElem?_cons_zero]; rfl)
        case h2x43 => kernel_rfl
        case h3x43 => kernel_rfl
        case h4x43 => kernel_rfl
        case h5x43 => exact fun _ _ _ h => h
        case h6x43 => exact Or.inr ⟨rfl, rfl⟩
        case h7x43 => exact hHeld
        try simp only [Act.put, List.setIfInBounds_toArray, List.set_cons_zero, List.set_cons_succ]
        refine' wpAnyH_take (i := 44) (oi := ?oix44) (v := undef) ?h1x44 ?h2x44 ?h3x44 ?h4x44 ?h5x44 ?h6x44 ?h7x44 ?h8x44
        case h1x44 => (simp only [List.getElem?_toArray, List.getElem?_cons_succ, List.getElem?_cons_zero]; rfl)
        case h2x44 => kernel_rfl
        case h3x44 => kernel_rfl
        case h4x44 => kernel_rfl
        case h5x44 => exact fun _ _ _ h => h
        case h6x44 => exact Or.inr ⟨rfl, rfl⟩
        case h7x44 => exact hHeld
        try simp only [Act.put, List.setIfInBounds_toArray, List.set_cons_zero, List.set_cons_succ]
        refine' wpAnyH_take (i := 45) (oi := ?oix45) (v := ?vx45) ?h1x45 ?h2x45 ?h3x45 ?h4x45 ?h5x45 ?h6x45 ?h7x45 ?h8x45
        case h1x45 => (simp only [List.getElem?_toArray, List.getElem?_cons_succ, List.getElem?_cons_zero]; rfl)
        case h2x45 => kernel_rfl
        case h3x45 => kernel_rfl
        case h4x45 => kernel_rfl
        case h5x45 => exact fun _ _ _ h => h
        case h6x45 => exact Or.inl ⟨rfl, (by (intro w hSw; (try dsimp only at hSw); go_simp; try with_reducible rfl))⟩
        case h7x45 => exact hHeld
        try simp only [Act.put, List.setIfInBounds_toArray, List.set_cons_zero, List.set_cons_succ]
        refine' wpAnyH_take (i := 46) (oi := ?oix46) (v := ?vx46) ?h1x46 ?h2x46 ?h3x46 ?h4x46 ?h5x46 ?h6x46 ?h7x46 ?h8x46
        case h1x46 => (simp only [List.getElem?_toArray, List.getElem?_cons_succ, List.getElem?_cons_zero]; rfl)
        case h2x46 => kernel_rfl
        case h3x46 => kernel_rfl
        case h4x46 => kernel_rfl
        case h5x46 => exact fun _ _ _ h => h
        case h6x46 => exact Or.inl ⟨rfl, (by (intro w hSw; (try dsimp only at hSw); go_simp; try with_reducible rfl))⟩
        case h7x46 => exact hHeld
        try simp only [Act.put, List.setIfInBounds_toArray, List.set_cons_zero, List.set_cons_succ]
        refine wpAnyH_done (by kernel_rfl) ?_ _
        all_goals
          go_wp2
          go_roundw
          case rel => exact ⟨i + 1, k', S', t', by omega, by omega, rfl, by go_num, Duo.less (ks := ks) (by repeat (first | assumption | apply Duo.drew HL.out)) (by intro x hx; cases hx)⟩
          case measure => simp [intOf]; omega
    · by_cases h1 : i < n1
      · have h1z : (i : Int) < n1 := by omega
        have h3z : ¬ (i : Int) < 60 := by omega
        clear hlt
        go_wp2
        go_ret
        exact ⟨rfl, HD.out.lo⟩
      · have h1z : ¬ (i : Int) < n1 := by omega
        clear hlt
        go_wp2
        go_ret
        exact ⟨rfl, HD.out.lo⟩

theorem both {Slt : World → Nat → Value → (Nat → Prop) → St → Prop} (L : Laws Slt) (LU : PutLaw Slt) (LP : PickLaw Slt) (a1 a2 : Option Addr) (n1 n2 c1 c2 : Nat) (s : Sg) (ds : List Int) (ls : List Sg) (w : World) (hs : szS s)
    (hn1 : n1 = ds.length) (hm1 : n1 ≤ maxLen) (hr1 : Row w a1 ds) (hw1 : ∀ d ∈ ds, -9223372036854775808 ≤ d ∧ d ≤ 9223372036854775807) (hn2 : n2 = ls.length) (hm2 : n2 ≤ maxLen) (hr2 : RRow 5 sgV w a2 ls) (hs2 : ∀ s ∈ ls, szS s) (hg : As.Handle w) :
    Calls Tryd.prog 4 #[sgA s, .slice a1 n1 c1, .slice a2 n2 c2] w fun e w' => e = .returned (.bool true) ∧ Below w.heap.size w w' := by
  by_cases hE : sgE s = 0
  · exact walk L LU LP a1 a2 n1 n2 c1 c2 s ds ls w hs hn1 hm1 hr1 hw1 hn2 hm2 hr2 hs2 hg hE
  · exact start L a1 a2 n1 n2 c1 c2 s w hs hg hE
end Go.Proofs.YtohojmfhmpgcmaaDoor.SlotPlays
