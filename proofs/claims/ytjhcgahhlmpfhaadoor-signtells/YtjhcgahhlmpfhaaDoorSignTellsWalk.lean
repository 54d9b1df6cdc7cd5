/-
  The walk of stairlaw1.SignTells: it returns true, and memory that was there stays as it was.
-/
import Derived.Test.YtjhcgahhlmpfhaaDoorSignRef
import Derived.Test.YtjhcgahhlmpfhaaDoorAs
namespace Go.Proofs.YtjhcgahhlmpfhaaDoor.SignTells
open Go.ChangeShapes Go.WideShapes Go.ChangeAt Go.RowKit
open Go.Proofs.YtjhcgahhlmpfhaaDoor.M Go.Proofs.YtjhcgahhlmpfhaaDoor.Key Go.Proofs.YtjhcgahhlmpfhaaDoor.Image
set_option linter.unusedVariables false

theorem mkS_shape (x k : Int) (nm : ByteArray) (v : Int) (cd : ByteArray) : ∃ (s0 s2 : ByteArray) (s1 s3 s4 : Int), mkS x k nm v cd = #[.string s0, .int .i64 s1, .string s2, .int .i64 s3, .int .i64 s4] := by
  by_cases h : sgnE x k nm v cd = 0
  · exact ⟨_, _, _, _, _, mkS_ok h⟩
  · exact ⟨_, _, _, _, _, mkS_no h⟩
/-- What the walk carries: the image and the signed one lie where they were laid, the library's variables hold what they held, and all that was there is as it was. -/
def Kept (w0 : World) (nm : ByteArray) (v : Int) (cd : ByteArray) (sn : ByteArray) (sv : Int) (sc : ByteArray) (sp sa : Int) (W : World) : Prop :=
  (Below w0.heap.size w0 W ∧ Has w0 ∧ As.Handle w0) ∧ W.heap[w0.heap.size]? = some (.cells #[.string nm, .int .i64 v, .string cd] 23) ∧ W.heap[w0.heap.size + 1]? = some (.cells #[.string sn, .int .i64 sv, .string sc, .int .i64 sp, .int .i64 sa] 27)
section
variable {w0 W W' : World} {nm cd sn sc : ByteArray} {v sv sp sa : Int}
theorem Kept.below (h : Kept w0 nm v cd sn sv sc sp sa W) (hb : Below W.heap.size W W') : Kept w0 nm v cd sn sv sc sp sa W' := ⟨⟨below_on h.1.1 hb, h.1.2⟩, blk_below h.2.1 hb, blk_below h.2.2 hb⟩
theorem Kept.has (h : Kept w0 nm v cd sn sv sc sp sa W) : Has W := h.1.2.1.below h.1.1
theorem Kept.handle (h : Kept w0 nm v cd sn sv sc sp sa W) : As.Handle W := h.1.2.2.below h.1.1
theorem kept_drew (h : Kept w0 nm v cd sn sv sc sp sa W) : Kept w0 nm v cd sn sv sc sp sa W.drew := h.below (Below.drew (Below.refl _ _))
theorem kept_S (h : Kept w0 nm v cd sn sv sc sp sa W) : W.cell? ⟨w0.heap.size + 1, 0, none⟩ = some (.string sn) ∧ W.cell? ⟨w0.heap.size + 1, 1, none⟩ = some (.int .i64 sv) ∧ W.cell? ⟨w0.heap.size + 1, 2, none⟩ = some (.string sc) ∧ W.cell? ⟨w0.heap.size + 1, 3, none⟩ = some (.int .i64 sp) ∧ W.cell? ⟨w0.heap.size + 1, 4, none⟩ = some (.int .i64 sa) ∧ Kept w0 nm v cd sn sv sc sp sa W := by
  obtain ⟨r0, r1, r2, r3, r4⟩ := cells5 h.2.2
  exact ⟨r0, r1, r2, r3, r4, h⟩
end

/-- Beside these an empty signed image in a block of its own. -/
def HeldZ (w0 : World) (nm : ByteArray) (v : Int) (cd : ByteArray) (sn : ByteArray) (sv : Int) (sc : ByteArray) (sp sa : Int) (b : Nat) (W : World) : Prop :=
  Kept w0 nm v cd sn sv sc sp sa W ∧ W.heap[b]? = some (.cells #[.string { data := #[] }, .int .i64 0, .string { data := #[] }, .int .i64 0, .int .i64 0] 27)
section
variable {w0 W W' : World} {nm cd sn sc : ByteArray} {v sv sp sa : Int} {b : Nat}
theorem heldZ_below (h : HeldZ w0 nm v cd sn sv sc sp sa b W) (hb : Below W.heap.size W W') : HeldZ w0 nm v cd sn sv sc sp sa b W' := ⟨h.1.below hb, blk_below h.2 hb⟩
theorem heldZ_drew (h : HeldZ w0 nm v cd sn sv sc sp sa b W) : HeldZ w0 nm v cd sn sv sc sp sa b W.drew := heldZ_below h (Below.drew (Below.refl _ _))
theorem heldZ_img (h : HeldZ w0 nm v cd sn sv sc sp sa b W) : W.cell? ⟨w0.heap.size, 0, none⟩ = some (.string nm) ∧ W.cell? ⟨w0.heap.size, 1, none⟩ = some (.int .i64 v) ∧ W.cell? ⟨w0.heap.size, 2, none⟩ = some (.string cd) := img_cells (nm := nm) (v := v) (cd := cd) h.1.2.1
theorem heldZ_row (h : HeldZ w0 nm v cd sn sv sc sp sa b W) : W.cell? ⟨b, 0, none⟩ = some (.string { data := #[] }) ∧ W.cell? ⟨b, 1, none⟩ = some (.int .i64 0) ∧ W.cell? ⟨b, 2, none⟩ = some (.string { data := #[] }) ∧ W.cell? ⟨b, 3, none⟩ = some (.int .i64 0) ∧ W.cell? ⟨b, 4, none⟩ = some (.int .i64 0) := cells5 h.2
theorem heldZ_set (h : HeldZ w0 nm v cd sn sv sc sp sa b W) (hb : w0.heap.size + 1 < b) (c : Array Value) : Kept w0 nm v cd sn sv sc sp sa (W.setRow b c) ∧ (W.setRow b c).heap[b]? = some (.cells c 27) := by
  obtain ⟨⟨⟨h1, h2, h3⟩, h4, h5⟩, h6⟩ := h
  exact ⟨⟨⟨below_setRow h1 (by omega) _, h2, h3⟩, by rw [setRow_other _ _ _ _ (by omega)]; exact h4, by rw [setRow_other _ _ _ _ (by omega)]; exact h5⟩, setRow_heap _ _ _ _ _ _ h6⟩
end

set_option maxRecDepth 20000 in
set_option maxHeartbeats 8000000 in
theorem walk (x k v q sv sp sa : Int) (nm cd sn sc : ByteArray) (w : World) (hn : nm.size ≤ 140737488351232) (hc : cd.size ≤ 140737488351232) (hn' : sn.size ≤ 140737488351232) (hc' : sc.size ≤ 140737488351232) (hh : Has w) (hg : As.Handle w) :
    Calls Tryd.prog 3 #[.int .i64 x, .int .i64 k, .agg (imgC nm v cd), .int .i64 q, .agg (sgnC sn sv sc sp sa)] w fun e w' => e = .returned (.bool true) ∧ Below w.heap.size w w' := by
  have hbA := below_on (below_new w (.cells (imgC nm v cd) 23)) (below_new _ (.cells (sgnC sn sv sc sp sa) 27))
  have HK : Hid (Kept w nm v cd sn sv sc sp sa ((w.alloc (.cells (imgC nm v cd) 23)).alloc (.cells (sgnC sn sv sc sp sa) 27))) := ⟨⟨hbA, hh, hg⟩, blk_keep (blk_new _ _) _, blk_two _ _ _⟩
  clear hbA hh hg
  have IM := hide (fun W => Ref.image_any nm cd v W hn hc)
  have MK := hide (fun (W : World) (h : Has W) => Sign.make_any x k v nm cd W hn hc h)
  have CK := hide (fun (W : World) (h : Has W) => Sign.check_any q sv sp sa sn sc W hn' hc' h)
  have SD := hide (fun W => Ref.sealed_any q sv sp sa sn sc W hn' hc')
  have SC0 := hide (sigC_meas (x := x) (k := k) (m := 0) rfl (mea_is nm v cd))
  have EOK := hide (fun h => sgnE_ok (x := x) (k := k) (nm := nm) (v := v) (cd := cd) h)
  have ENO := hide (fun h => sgnE_img (x := x) (k := k) (nm := nm) (v := v) (cd := cd) h)
  have SGZ := hide (fun h => sgnE_zero (x := x) (k := k) (nm := nm) (v := v) (cd := cd) h)
  obtain ⟨s0, s2, s1, s3, s4, hmk⟩ := mkS_shape x k nm v cd
  have MKS := hide hmk
  rw [hmk] at MK
  clear hmk
  unfold imgC at HK IM MK ⊢
  unfold sgnC at HK CK SD ⊢
  go_enter Tryd.func3, Tryd.ntmps3
  go_wp2_with (fail)
  refine (IM.out _).mono ?_
  rintro e w1 ⟨rfl, hb1⟩
  have HK1 := hide (HK.out.below hb1)
  clear hb1 HK IM
  go_upto_region 2 with (fail)
  go_cut [11, 18, 19, 20] (fun s11 _ _ s20 w' => s11 = .int .i64 (imgE nm v cd) ∧ s20 = .bool (decide (imgE nm v cd = 0)) ∧ w' = w1)
  case first =>
    by_cases hz : imgE nm v cd = 0
    · have D := hide (decide_eq_true hz)
      go_wp2
      go_meet
      exact ⟨by rw [hz], by rw [D.out], rfl⟩
    · have D := hide (decide_eq_false hz)
      go_wp2
      go_meet
      exact ⟨rfl, by rw [D.out, beq_eq_false_iff_ne.2 hz], rfl⟩
  case rest =>
  obtain ⟨rfl, rfl, hw⟩ := hcut
  obtain ⟨w2, hwa⟩ : ∃ wa, wa = wc := ⟨_, rfl⟩
  subst hwa
  subst hw
  go_upto_if 20 with (fail)
  go_cut [11, 20] (fun s11 _ w' => s11 = .int .i64 (sgnE x k nm v cd) ∧ w' = w2)
  case first =>
    by_cases hz : imgE nm v cd = 0
    · rw [decide_eq_true hz]
      have E := hide (SC0.out.trans (EOK.out hz).symm)
      clear hz
      go_wp2_with (fail)
      refine (Ref.signed_any x k 0 _).mono ?_
      rintro e w3 ⟨rfl, hw3⟩
      rw [hw3]
      clear hw3
      go_wp2
      go_meet
      exact ⟨by rw [E.out], rfl⟩
    · rw [decide_eq_false hz]
      have E := hide (ENO.out hz)
      clear hz
      go_wp2
      go_meet
      exact ⟨by rw [E.out], rfl⟩
  case rest =>
  obtain ⟨rfl, hw⟩ := hcut
  obtain ⟨w3, hwa⟩ : ∃ wa, wa = wc := ⟨_, rfl⟩
  subst hwa
  subst hw
  clear SC0 EOK ENO
  have HK4 := hide (HK1.out.below (below_new w3 (.cells #[.string { data := #[] }, .int .i64 0, .string { data := #[] }, .int .i64 0, .int .i64 0] 27)))
  have HZ4 := hide (blk_new w3 (.cells #[.string { data := #[] }, .int .i64 0, .string { data := #[] }, .int .i64 0, .int .i64 0] 27))
  have hlt := blk_lt HK1.out.2.2
  clear HK1
  go_upto_region 5 with (fail)
  go_cut [11, 24, 25] (fun s11 _ s25 w' => s11 = .int .i64 (sgnE x k nm v cd) ∧ s25 = .bool (decide (sgnE x k nm v cd = 0)) ∧ w' = (w3.alloc (.cells #[.string { data := #[] }, .int .i64 0, .string { data := #[] }, .int .i64 0, .int .i64 0] 27)))
  case first =>
    by_cases hz : sgnE x k nm v cd = 0
    · have D := hide (decide_eq_true hz)
      go_wp2
      go_meet
      exact ⟨by rw [hz], by rw [D.out], rfl⟩
    · have D := hide (decide_eq_false hz)
      go_wp2
      go_meet
      exact ⟨rfl, by rw [D.out, beq_eq_false_iff_ne.2 hz], rfl⟩
  case rest =>
  obtain ⟨rfl, rfl, rfl⟩ := hcut
  go_upto_if 25 with (fail)
  go_cut [25] (fun _ w' => Kept w nm v cd sn sv sc sp sa w' ∧ w'.heap[w3.heap.size]? = some (.cells #[.string s0, .int .i64 s1, .string s2, .int .i64 s3, .int .i64 s4] 27))
  case first =>
    by_cases hz : sgnE x k nm v cd = 0
    · rw [decide_eq_true hz]
      obtain ⟨hE, hsz⟩ := SGZ.out hz
      obtain ⟨z1, z2, z3⟩ := sigC_zero hsz
      have LN := hide (fun W => Ref.line_ok nm cd v W hE)
      have TX := hide (fun W => Ref.text_ok (lineB nm v cd) W (Nat.le_trans (line_size nm cd v hE) (by omega)))
      rw [← meaV_ok hE] at TX
      have SI := hide (fun W => Ref.sign_ok x k (meaV nm v cd) W z1 z2 z3)
      have ME := hide (MKS.out.symm.trans (mkS_ok hz))
      unfold sgnC at ME
      unfold imgC at LN
      unfold sealC at SI
      clear hz hE hsz z1 z2 z3
      generalize sigP x k (meaV nm v cd) = gp at *
      generalize sigA x k (meaV nm v cd) = ga at *
      generalize meaV nm v cd = mv at *
      generalize lineB nm v cd = ln at *
      have hH : HeldZ w nm v cd sn sv sc sp sa w3.heap.size (w3.alloc (.cells #[.string { data := #[] }, .int .i64 0, .string { data := #[] }, .int .i64 0, .int .i64 0] 27)) := ⟨HK4.out, HZ4.out⟩
      obtain ⟨w4, hw4⟩ : ∃ w4, w4 = (w3.alloc (.cells #[.string { data := #[] }, .int .i64 0, .string { data := #[] }, .int .i64 0, .int .i64 0] 27)) := ⟨_, rfl⟩
      rw [← hw4] at hH ⊢
      clear hw4 HK4 HZ4
      obtain ⟨i0, i1, i2⟩ := heldZ_img hH
      obtain ⟨r0, r1, r2, r3, r4⟩ := heldZ_row hH
      obtain ⟨g0, g1, g2, g3, g4⟩ := free5 hH.2
      go_wp2_with (fail)
      go_region_with (first
          | (go_at_call 10; refine (LN.out _).mono ?_; rintro e w5 ⟨rfl, hb5⟩; have h5 : HeldZ w nm v cd sn sv sc sp sa w3.heap.size w5 := heldZ_below (by repeat (first | assumption | apply heldZ_drew)) hb5; clear hb5; obtain ⟨a0, a1, a2⟩ := heldZ_img h5)
          | (go_at_call 9; refine (TX.out _).mono ?_; rintro e w6 ⟨rfl, rfl⟩)
          | (go_at_call 8; refine (SI.out _).mono ?_; rintro e w7 ⟨rfl, hb7⟩; have h7 : HeldZ w nm v cd sn sv sc sp sa w3.heap.size w7 := heldZ_below (by repeat (first | assumption | apply heldZ_drew)) hb7; clear hb7; obtain ⟨b0, b1, b2⟩ := heldZ_img h7; obtain ⟨c0, c1, c2, c3, c4⟩ := heldZ_row h7; obtain ⟨d0, d1, d2, d3, d4⟩ := free5 h7.2))
      all_goals
        go_wp2
        first | rw [set5 h7.2] | rw [set5 (heldZ_drew h7).2]
        go_meet
        rw [ME.out]
        first | exact heldZ_set h7 (by omega) _ | exact heldZ_set (heldZ_drew h7) (by omega) _
    · rw [decide_eq_false hz]
      have ME := hide (MKS.out.symm.trans (mkS_no hz))
      unfold sgnC at ME
      clear hz
      go_wp2
      go_meet
      exact ⟨HK4.out, by rw [ME.out]; exact HZ4.out⟩
  case rest =>
  obtain ⟨hk5, hz5⟩ := hcut
  obtain ⟨w5, hwa⟩ : ∃ wa, wa = wc := ⟨_, rfl⟩
  subst hwa
  have HK5 := hide hk5
  have HZ5 := hide hz5
  clear hk5 hz5 HK4 HZ4 SGZ MKS
  obtain ⟨i0, i1, i2⟩ := img_cells (nm := nm) (v := v) (cd := cd) HK5.out.2.1
  go_wp2_with (fail)
  refine (MK.out _ HK5.out.has).mono ?_
  rintro e w6 ⟨rfl, hb6⟩
  have hb7 := below_on hb6 (below_new w6 (.cells #[.string s0, .int .i64 s1, .string s2, .int .i64 s3, .int .i64 s4] 27))
  have HK7 := hide (HK5.out.below hb7)
  have HZ7 := hide (blk_below HZ5.out hb7)
  have HY7 := hide (blk_new w6 (.cells #[.string s0, .int .i64 s1, .string s2, .int .i64 s3, .int .i64 s4] 27))
  clear hb6 hb7 HK5 HZ5 i0 i1 i2 MK
  go_wp2_with (fail)
  refine (As.same_is _ _ _ rfl HK7.out.handle).mono ?_
  rintro e w8 ⟨rfl, hb8⟩
  have HK8 := hide (HK7.out.below hb8)
  have HZ8 := hide (blk_below HZ7.out hb8)
  have HY8 := hide (blk_below HY7.out hb8)
  clear hb8 HK7 HZ7 HY7
  obtain ⟨r0, r1, r2, r3, r4⟩ := cells5 HZ8.out
  obtain ⟨t0, t1, t2, t3, t4⟩ := cells5 HY8.out
  go_upto_region 9 with (fail)
  go_cut [16] (fun s16 w' => s16 = .bool true ∧ Kept w nm v cd sn sv sc sp sa w')
  case first =>
    have hH : Kept w nm v cd sn sv sc sp sa w8 := HK8.out
    clear r0 r1 r2 r3 r4 t0 t1 t2 t3 t4 HZ8 HY8
    obtain ⟨r0, r1, r2, r3, r4, _⟩ := kept_S hH
    generalize sldE q sn sv sc sp sa = se at *
    go_region_held3 (fun w' => w'.cell? ⟨w.heap.size + 1, 0, none⟩ = some (.string sn) ∧ w'.cell? ⟨w.heap.size + 1, 1, none⟩ = some (.int .i64 sv) ∧ w'.cell? ⟨w.heap.size + 1, 2, none⟩ = some (.string sc) ∧ w'.cell? ⟨w.heap.size + 1, 3, none⟩ = some (.int .i64 sp) ∧ w'.cell? ⟨w.heap.size + 1, 4, none⟩ = some (.int .i64 sa) ∧ Kept w nm v cd sn sv sc sp sa w')
      (exact kept_S (by repeat (first | assumption | apply kept_drew)))
      (first
        | (go_at_call 13; refine (CK.out _ (Kept.has (by repeat (first | assumption | apply kept_drew)))).mono ?_; rintro e w11 ⟨rfl, hb11⟩; have h11 : Kept w nm v cd sn sv sc sp sa w11 := Kept.below (by repeat (first | assumption | apply kept_drew)) hb11; clear hb11; obtain ⟨m0, m1, m2, m3, m4, _⟩ := kept_S h11)
        | (go_at_call 14; refine (SD.out _).mono ?_; rintro e w12 ⟨rfl, hb12⟩; have h12 : Kept w nm v cd sn sv sc sp sa w12 := Kept.below (by repeat (first | assumption | apply kept_drew)) hb12; clear hb12; obtain ⟨n0, n1, n2, n3, n4, _⟩ := kept_S h12)
        | (go_at_call 12; refine (As.same_is _ _ _ rfl (Kept.handle (by repeat (first | assumption | apply kept_drew)))).mono ?_; rintro e w13 ⟨rfl, hb13⟩; have h13 : Kept w nm v cd sn sv sc sp sa w13 := Kept.below (by repeat (first | assumption | apply kept_drew)) hb13; clear hb13; obtain ⟨o0, o1, o2, o3, o4, _⟩ := kept_S h13))
    all_goals
      go_wp2
      go_meet
      exact ⟨rfl, by repeat (first | assumption | apply kept_drew)⟩
  case rest =>
  obtain ⟨rfl, hk⟩ := hcut
  have HKE := hide hk
  clear hk
  go_wp2
  go_ret
  exact ⟨by first | rfl | simp, HKE.out.1.1⟩
end Go.Proofs.YtjhcgahhlmpfhaaDoor.SignTells
