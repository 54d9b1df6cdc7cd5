/-
  The walk of stairlaw4.CountFull: it returns true, and memory that was there stays as it was.
-/
import Derived.Test.YtojdaifnljghkaaDoorCntLaw
import Derived.Test.YtojdaifnljghkaaDoorAs
namespace Go.Proofs.YtojdaifnljghkaaDoor.CountFull
open Go.ChangeShapes Go.WideShapes Go.ChangeAt Go.RowKit
open Go.Proofs.YtojdaifnljghkaaDoor.M Go.Proofs.YtojdaifnljghkaaDoor.Count
set_option linter.unusedVariables false

theorem text_fin : ∀ i : Fin 20, ({ data := #[110] } : ByteArray) ++ ByteArray.extract { data := #[97, 98, 99, 100, 101, 102, 103, 104, 105, 106, 107, 108, 109, 110, 111, 112, 113, 114, 115, 116] } i.val (i.val + 1) = nmI i.val := by decide
theorem one_fin : ∀ i : Fin 20, (ByteArray.extract { data := #[97, 98, 99, 100, 101, 102, 103, 104, 105, 106, 107, 108, 109, 110, 111, 112, 113, 114, 115, 116] } i.val (i.val + 1)).size = 1 := by decide +kernel
theorem raise_ok {i : Nat} (h : i < 12) : raiB (fI i) (min i 12) (nmI i) 1 = true ∧ raiE (fI i) (min i 12) (nmI i) 1 = 0 ∧ raiF (fI i) (min i 12) (nmI i) 1 = fI (i + 1) ∧ raiK (fI i) (min i 12) (nmI i) 1 = min (i + 1) 12 := by
  have h0 := fI_own (i := i) (by omega)
  have hb : raiB (fI i) (min i 12) (nmI i) 1 = true := raiB_iff.2 ⟨nmI_name (by omega), by omega, by rw [h0]; omega, by omega⟩
  refine ⟨hb, raiE_rise hb, by rw [raiF_yes hb, fI_next h], ?_⟩
  unfold raiK
  rw [if_pos hb, if_pos h0]
  omega
theorem raise_no {i : Nat} (h : ¬ i < 12) (h2 : i < 20) : raiB (fI i) (min i 12) (nmI i) 1 = false ∧ raiE (fI i) (min i 12) (nmI i) 1 = 4 ∧ raiF (fI i) (min i 12) (nmI i) 1 = fI (i + 1) ∧ raiK (fI i) (min i 12) (nmI i) 1 = min (i + 1) 12 := by
  have h0 := fI_own (i := i) h2
  have hb : ¬ raiB (fI i) (min i 12) (nmI i) 1 = true := fun hb => (raiB_iff.1 hb).2.2.2 ⟨h0, by omega⟩
  refine ⟨by simpa using hb, ?_, by rw [raiF_no hb, fI_full (by omega)], by rw [raiK_no hb]; omega⟩
  unfold raiE
  rw [if_pos (nmI_name h2), if_pos (by omega), if_neg (by rw [h0]; omega), if_pos ⟨h0, by omega⟩]
theorem size_I (i : Nat) : (nmI i).size ≤ 140737488351232 := by show 2 ≤ _; omega

set_option maxRecDepth 20000 in
set_option maxHeartbeats 4000000 in
theorem walk {Cnt : World → Nat → Value → (Nat → Prop) → (ByteArray → Int) → Nat → Prop} (L : Laws Cnt) (m : Int) (w : World) (hg : As.Handle w) :
    Calls Tryd.prog 4 #[.int .i64 m] w fun e w' => e = .returned (.bool true) ∧ Below w.heap.size w w' := by
  have HH := hide (fun (W : World) (h : Below w.heap.size w W) => hg.below h)
  have HL := hide L
  clear hg L
  go_enter Tryd.func4, Tryd.ntmps4
  go_wp2_with (fail)
  refine (HL.out.new w w.heap.size (Nat.le_refl _)).mono ?_
  rintro e w1 ⟨p, S0, rfl, hn1, _, hb1⟩
  have HN1 := hide hn1
  have HB1 := hide hb1
  clear hn1 hb1
  go_wp2
  go_loopw [4, 5, 6] (fun s4 _ _ wr => ∃ (i : Nat) (S : Nat → Prop), i ≤ 20 ∧ s4 = .int .i64 i ∧ Hid (Cnt wr w.heap.size p S (fI i) (min i 12)) ∧ Hid (Below w.heap.size w wr)) (fun s4 _ _ _ => 20 - (intOf s4).toNat)
  case atStart => exact ⟨0, S0, by omega, rfl, (by show Cnt _ _ _ _ (fI 0) 0; rw [fI_zero]; exact HN1.out), HB1.out⟩
  case round =>
    obtain ⟨i, S, hi, rfl, HN, HB⟩ := hrel
    have hsz := HB.out.size
    by_cases hlt : (i : Int) < m ∧ i < 20
    · obtain ⟨hm, h20⟩ := hlt
      have h20z : (i : Int) < 20 := by omega
      have TX := hide (text_fin ⟨i, h20⟩)
      simp only [] at TX
      have hs1 : (ByteArray.extract { data := #[97, 98, 99, 100, 101, 102, 103, 104, 105, 106, 107, 108, 109, 110, 111, 112, 113, 114, 115, 116] } i (i + 1)).size = 1 := one_fin ⟨i, h20⟩
      have c1 : (0 : Int) ≤ i := by omega
      have c2 : (i : Int) ≤ i + 1 := by omega
      have c3 : (i : Int) + 1 ≤ 20 := by omega
      by_cases h12 : i < 12
      · have h12z : (i : Int) < 12 := by omega
        obtain ⟨b1, b2, b3, b4⟩ := raise_ok h12
        have RZ := hide (HL.out.raise p S (fI i) (min i 12) (nmI i) 1 _ w.heap.size HN.out (size_I i) hsz)
        rw [b1, b2, b3, b4, errV_zero] at RZ
        clear b1 b2 b3 b4
        go_wp2_with (fail)
        rw [TX.out]
        refine RZ.out.mono ?_
        rintro e w2 ⟨S2, rfl, hn2, ho2, _⟩
        have HN2 := hide hn2
        have HB2 := hide (HB.out.trans (ho2.below hsz (fun k hk => (HL.out.has HN.out k hk).1)))
        clear hn2 ho2 RZ
        go_wp2
        go_roundw
        case rel => exact ⟨i + 1, S2, by omega, by go_num, HN2.out, HB2.out⟩
        case measure => simp [intOf]; omega
      · have h12z : ¬ (i : Int) < 12 := by omega
        obtain ⟨b1, b2, b3, b4⟩ := raise_no h12 h20
        have RZ := hide (HL.out.raise p S (fI i) (min i 12) (nmI i) 1 _ w.heap.size HN.out (size_I i) hsz)
        rw [b1, b2, b3, b4, show errV 72 4 = .iface 72 (.int .i64 4) from rfl] at RZ
        clear b1 b2 b3 b4
        go_wp2_with (fail)
        rw [TX.out]
        refine RZ.out.mono ?_
        rintro e w2 ⟨S2, rfl, hn2, ho2, _⟩
        have HN2 := hide hn2
        have HB2 := hide (HB.out.trans (ho2.below hsz (fun k hk => (HL.out.has HN.out k hk).1)))
        clear hn2 ho2 RZ
        go_wp2_with (fail)
        refine (As.same_err 4 4 _ (HH.out _ HB2.out)).mono ?_
        rintro e w3 ⟨rfl, hb3⟩
        have HN3 := hide (HL.out.below HN2.out hb3)
        have HB3 := hide (HB2.out.trans (hb3.mono HB2.out.size))
        clear hb3
        go_wp2
        go_roundw
        case rel => exact ⟨i + 1, S2, by omega, by go_num, HN3.out, HB3.out⟩
        case measure => simp [intOf]; omega
    · have LZ := hide (HL.out.least p S (fI i) (min i 12) { data := #[122, 122] } _ w.heap.size HN.out (by show 2 ≤ _; omega))
      obtain ⟨l1, l2⟩ := leaE_ok (f := fI i) (show nameB { data := #[122, 122] } = true by decide)
      rw [l1, l2, fI_zz, errV_zero] at LZ
      clear l1 l2
      by_cases hm : (i : Int) < m
      · have h20z : ¬ (i : Int) < 20 := by omega
        clear hlt
        go_wp2_with (fail)
        refine LZ.out.mono ?_
        rintro e w2 ⟨rfl, hb2⟩
        have HB2 := hide (HB.out.trans (hb2.mono hsz))
        clear hb2
        go_wp2
        go_ret
        exact ⟨rfl, HB2.out⟩
      · clear hlt
        go_wp2_with (fail)
        refine LZ.out.mono ?_
        rintro e w2 ⟨rfl, hb2⟩
        have HB2 := hide (HB.out.trans (hb2.mono hsz))
        clear hb2
        go_wp2
        go_ret
        exact ⟨rfl, HB2.out⟩
end Go.Proofs.YtojdaifnljghkaaDoor.CountFull
