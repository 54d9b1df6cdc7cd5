/-
  The walk of stairlaw1.SignHolds: it returns true, and memory that was there stays as it was.
-/
import Derived.Test.YtjhcgahhlmpfhaaDoorSign1
import Derived.Test.YtjhcgahhlmpfhaaDoorAs
namespace Go.Proofs.YtjhcgahhlmpfhaaDoor.SignHolds
open Go.ChangeShapes Go.WideShapes Go.ChangeAt Go.RowKit
open Go.Proofs.YtjhcgahhlmpfhaaDoor.M Go.Proofs.YtjhcgahhlmpfhaaDoor.Key Go.Proofs.YtjhcgahhlmpfhaaDoor.Image
set_option linter.unusedVariables false

/-- What the walk carries: the image lies where it was laid, and all that was there is as it was. -/
def Kept (w0 : World) (nm : ByteArray) (v : Int) (cd : ByteArray) (W : World) : Prop :=
  Below w0.heap.size w0 W ∧ W.heap[w0.heap.size]? = some (.cells #[.string nm, .int .i64 v, .string cd] 23)
section
variable {w0 W W' : World} {nm cd : ByteArray} {v : Int}
theorem Kept.below (h : Kept w0 nm v cd W) (hb : Below W.heap.size W W') : Kept w0 nm v cd W' := ⟨below_on h.1 hb, blk_below h.2 hb⟩
theorem Kept.set (h : Kept w0 nm v cd W) {b : Nat} (hb : w0.heap.size < b) (c : Array Value) : Kept w0 nm v cd (W.setRow b c) :=
  ⟨below_setRow h.1 (by omega) _, by rw [setRow_other _ _ _ _ (by omega)]; exact h.2⟩
theorem Kept.has (h : Kept w0 nm v cd W) (hh : Has w0) : Has W := hh.below h.1
theorem Kept.handle (h : Kept w0 nm v cd W) (hg : As.Handle w0) : As.Handle W := hg.below h.1
end
theorem img_os : imgE { data := #[111, 115] } 1 { data := #[] } = 0 := by decide +kernel
theorem sgn_os : sgnE 5 7 { data := #[111, 115] } 1 { data := #[] } = 0 := by
  rw [sgnE_ok img_os, sigC_ok rfl rfl (mea_is _ _ _)]

set_option maxRecDepth 20000 in
set_option maxHeartbeats 4000000 in
theorem walk (x k v other : Int) (nm cd : ByteArray) (w : World) (hn : nm.size ≤ 140737488351232) (hc : cd.size ≤ 140737488351232) (hh : Has w) (hg : As.Handle w) :
    Calls Tryd.prog 4 #[.int .i64 x, .int .i64 k, .agg (imgC nm v cd), .int .i64 other] w fun e w' => e = .returned (.bool true) ∧ Below w.heap.size w w' := by
  have HI : Hid (Kept w nm v cd (w.alloc (.cells #[.string nm, .int .i64 v, .string cd] 23))) := ⟨below_new _ _, blk_new _ _⟩
  have HH := hide hh
  have HG := hide hg
  have M0 := hide (fun (W : World) (h : Has W) => Sign.make_any 5 7 1 { data := #[111, 115] } { data := #[] } W (by decide) (by decide) h)
  rw [mkS_ok sgn_os, sgn_os, errV_zero] at M0
  unfold sgnC imgC at M0
  generalize sigP 5 7 (meaV { data := #[111, 115] } 1 { data := #[] }) = p0 at M0
  generalize sigA 5 7 (meaV { data := #[111, 115] } 1 { data := #[] }) = q0 at M0
  have M1 := hide (fun (W : World) (h : Has W) => Sign.make_any x k v nm cd W hn hc h)
  clear hh hg
  unfold imgC at M1 ⊢
  go_enter Tryd.func4, Tryd.ntmps4
  go_wp2_with (fail)
  refine (M0.out _ (HI.out.has HH.out)).mono ?_
  rintro e w1 ⟨rfl, hb1⟩
  have HI1 := hide (HI.out.below (below_on hb1 (below_new w1 (.cells #[.string { data := #[111, 115] }, .int .i64 1, .string { data := #[] }, .int .i64 p0, .int .i64 q0] 27))))
  have hi1 := img_cells (nm := nm) (v := v) (cd := cd) (blk_below HI.out.2 hb1)
  have hlt1 := blk_lt (blk_below HI.out.2 hb1)
  obtain ⟨i0, i1, i2⟩ := hi1
  clear hb1 M0 HI
  go_wp2_with (fail)
  refine (M1.out _ (HI1.out.has HH.out)).mono ?_
  rintro e w2 ⟨rfl, hb2⟩
  have HI2 := hide (HI1.out.below hb2)
  clear hb2 HI1 i0 i1 i2 M1 hlt1
  by_cases hS : sgnE x k nm v cd = 0
  · have OWN := hide (sld_own hS)
    have RNG := hide (fun h => sld_range (other := other) hS h)
    have OTH := hide (fun h => sld_other (other := other) hS h)
    obtain ⟨_, hz⟩ := sgnE_zero hS
    obtain ⟨hx, _, _⟩ := sigC_zero hz
    have PX := hide (fun W => public_ok x W hx)
    have CK := hide (fun (W : World) (a : Int) (h : Has W) => Sign.check_any (pwZ 64 x) v (sigP x k (meaV nm v cd)) a nm cd W hn hc h)
    rw [mkS_ok hS, hS, errV_zero]
    unfold sgnC at CK ⊢
    clear hS hz hx
    generalize sigP x k (meaV nm v cd) = p at *
    generalize sigA x k (meaV nm v cd) = a at *
    generalize pwZ 64 x = q at *
    have HI3 := hide (HI2.out.below (below_new w2 (.cells #[.string nm, .int .i64 v, .string cd, .int .i64 p, .int .i64 a] 27)))
    have HS3 := hide (blk_new w2 (.cells #[.string nm, .int .i64 v, .string cd, .int .i64 p, .int .i64 a] 27))
    have hlt := blk_lt HI2.out.2
    clear HI2
    go_wp2_with (fail)
    refine (PX.out _).mono ?_
    rintro e w3 ⟨rfl, hw3⟩
    rw [hw3]
    clear hw3 PX
    go_wp2_with (fail)
    refine (CK.out _ a (HI3.out.has HH.out)).mono ?_
    rintro e w4 ⟨rfl, hb4⟩
    rw [OWN.out, errV_zero]
    have HI4 := hide (HI3.out.below hb4)
    have HS4 := hide (blk_below HS3.out hb4)
    clear hb4 HI3 HS3
    obtain ⟨i0, i1, i2⟩ := img_cells (nm := nm) (v := v) (cd := cd) HI4.out.2
    obtain ⟨r0, r1, r2, r3, r4⟩ := cells5 HS4.out
    obtain ⟨g0, g1, g2, g3, g4⟩ := free5 HS4.out
    have HI5 : Hid (Kept w nm v cd (w4.setCell ⟨w2.heap.size, 4, none⟩ (.int .i64 other))) := by
      show Kept w nm v cd (w4.setCell ⟨w2.heap.size, 4, none⟩ (.int .i64 other))
      rw [setCell_eq_setRow w4 _ 4 _ _ _ _ HS4.out]
      exact HI4.out.set hlt _
    go_wp2_with (fail)
    refine (CK.out _ other (HI5.out.has HH.out)).mono ?_
    rintro e w6 ⟨rfl, hb6⟩
    have HI6 := hide (HI5.out.below hb6)
    clear hb6 HI5 HI4 HS4 r0 r1 r2 r3 r4 g0 g1 g2 g3 g4 i0 i1 i2 CK
    cases ho : ansB other with
    | false =>
      have hr := ansB_not.1 ho
      rw [RNG.out ho]
      clear RNG OTH OWN ho
      by_cases h0 : other < 0
      · clear hr
        go_wp2_with (fail)
        refine (As.same_is _ _ _ rfl (HI6.out.handle HG.out)).mono ?_
        rintro e w7 ⟨rfl, hb7⟩
        have HB7 := hide (below_on HI6.out.1 hb7)
        clear hb7
        go_wp2
        go_ret
        exact ⟨rfl, HB7.out⟩
      · have h1 : 256 < other := by omega
        clear hr
        go_wp2_with (fail)
        refine (As.same_is _ _ _ rfl (HI6.out.handle HG.out)).mono ?_
        rintro e w7 ⟨rfl, hb7⟩
        have HB7 := hide (below_on HI6.out.1 hb7)
        clear hb7
        go_wp2
        go_ret
        exact ⟨rfl, HB7.out⟩
    | true =>
      obtain ⟨h0, h1⟩ := ansB_iff.1 ho
      have h2 : other ≤ 256 := by omega
      by_cases he : other = a
      · subst he
        rw [OWN.out, errV_zero]
        clear RNG OTH OWN ho
        go_wp2
        go_ret
        exact ⟨rfl, HI6.out.1⟩
      · rw [OTH.out ho he]
        clear RNG OTH OWN ho
        go_wp2_with (fail)
        refine (As.same_is _ _ _ rfl (HI6.out.handle HG.out)).mono ?_
        rintro e w7 ⟨rfl, hb7⟩
        have HB7 := hide (below_on HI6.out.1 hb7)
        clear hb7
        go_wp2
        go_ret
        exact ⟨rfl, HB7.out⟩
  · have HX := hide (errV_ne (T := 53) hS)
    rw [mkS_no hS, HX.out]
    unfold sgnC
    clear hS
    have HB3 := hide (below_on HI2.out.1 (below_new w2 (.cells #[.string { data := #[] }, .int .i64 0, .string { data := #[] }, .int .i64 0, .int .i64 0] 27)))
    go_wp2
    go_ret
    exact ⟨rfl, HB3.out⟩
end Go.Proofs.YtjhcgahhlmpfhaaDoor.SignHolds
