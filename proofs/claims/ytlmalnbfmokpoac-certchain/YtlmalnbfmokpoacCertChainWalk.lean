/-
  The walk of stairlaw1.CertChain: it returns true, and memory that was there stays as it was.
-/
import Derived.Test.YtlmalnbfmokpoacCert1
import Derived.Test.YtlmalnbfmokpoacChainMath
import Derived.Deep.CutBlock
import Derived.Deep.LoopGhost
namespace Go.Proofs.Ytlmalnbfmokpoac.CertChain
open Go.ChangeShapes Go.WideShapes Go.ChangeAt Go.RowKit
open Go.Proofs.Ytlmalnbfmokpoac.M Go.Proofs.Ytlmalnbfmokpoac.Key Go.Proofs.Ytlmalnbfmokpoac.Cert
set_option linter.unusedVariables false

theorem last_first (w : World) : Calls Try.prog 7 #[.int .i64 64, .slice none 0 0] w fun e w' => e = .returned (.tuple #[.int .i64 64, .nilIface]) ∧ Below w.heap.size w w' := by
  have h := Cert.last_any 64 none [] 0 0 w rfl (by unfold maxLen; omega) (RRow.nil _ _)
  obtain ⟨e1, e2⟩ := lastV_nil 64
  rw [e1, e2] at h
  exact h
theorem info_cell : (Try.prog.info? 33).map (fun i => (i.zero, i.size, i.bytes)) = some (some (.agg #[.int .i64 0, .int .i64 0, .int .i64 0]), 3, 24) := by kernel_rfl

theorem cert_new (W : World) (x y z : Int) (t : TypeId) (b : Nat) (hb : W.heap.size = b) : ∀ (j : Nat) (u : Value), (certV (x, y, z))[j]? = some u → (W.alloc (.cells #[.int .i64 x, .int .i64 y, .int .i64 z] t)).cell? ⟨b, j, none⟩ = some u := by
  subst hb
  intro j u hu
  rw [cell_of_row _ _ _ _ t _ (blk_new W _)]
  simpa [certV] using hu

set_option maxRecDepth 20000 in
set_option maxHeartbeats 4000000 in
theorem walk (a0 : Option Addr) (n0 c0 : Nat) (xs : List Int) (kk root : Int) (a3 : Option Addr) (n3 c3 : Nat) (l : List (Int × Int × Int)) (cut : Int) (w : World)
    (hn0 : n0 = xs.length) (hm0 : n0 ≤ maxLen) (hr0 : Row w a0 xs) (hn3 : n3 = l.length) (hm3 : n3 ≤ maxLen) (hl3 : n3 ≤ c3) (hk3 : c3 ≤ maxLen) (hc3 : a3 = none → c3 = 0) (hr3 : RRow 3 certV w a3 l) :
    Calls Try.prog 4 #[.slice a0 n0 c0, .int .i64 kk, .int .i64 root, .slice a3 n3 c3, .int .i64 cut] w fun e w' => e = .returned (.bool true) ∧ Below w.heap.size w w' := by
  have hm0' : n0 ≤ 9223372036854775807 := by unfold maxLen at hm0; omega
  have hm3' : n3 ≤ 9223372036854775807 := by unfold maxLen at hm3; omega
  have HN0 := hide hn0
  have HR0 := hide hr0
  have HN3 := hide hn3
  have HM3 := hide hm3
  have HL3 := hide hl3
  have HK3 := hide hk3
  have HC3 := hide hc3
  have HR3 := hide hr3
  clear hn0 hm0 hr0 hn3 hm3 hl3 hk3 hc3 hr3
  go_enter Try.func4, Try.ntmps4
  go_wp2_with (fail)
  refine (last_first _).mono ?_
  rintro e w1 ⟨rfl, hb1⟩
  have HB1 := hide hb1
  clear hb1
  go_upto_block 0 with (fail)
  go_cut [13, 14, 15, 16, 17, 18, 19, 20] from 39 to 85 (fun s13 s14 s15 _ _ _ _ _ w' => ∃ (v : Value) (f la : Int) (cs : List (Int × Int × Int)), s13 = v ∧ s14 = .int .i64 f ∧ s15 = .int .i64 la ∧ OwnR 3 certV w' w.heap.size 33 v cs ∧ Below w.heap.size w w' ∧ (f = 0 ∨ (0 < f ∧ lastC f cs = 0 ∧ lastV f cs = la)) ∧ cs.length ≤ 10)
  case first =>
    go_wp2_with (fail)
    go_loopw [13, 14, 15, 16] (fun s13 s14 s15 s16 wr => ∃ k : Nat, k ≤ n0 ∧ k ≤ 10 ∧ s16 = .int .i64 k ∧ s14 = .int .i64 (fstK (xs.take k)) ∧ s15 = .int .i64 (lstK (xs.take k)) ∧ Hid (OwnR 3 certV wr w.heap.size 33 s13 (chainC kk (xs.take k))) ∧ Hid (Below w.heap.size w wr) ∧
      Hid (∀ x ∈ xs.take k, secB x = true) ∧ Hid (2 ≤ k → secB kk = true)) (fun _ _ _ s16 _ => 11 - (intOf s16).toNat)
    case atStart => exact ⟨0, by omega, by omega, rfl, rfl, rfl, OwnR.nil _ _ _, HB1.out, (fun x h => by simp at h : ∀ x ∈ xs.take 0, secB x = true), (fun h => by omega : 2 ≤ 0 → secB kk = true)⟩
    case round =>
      obtain ⟨k, hk, hk10, rfl, rfl, rfl, HO, HB, HS, HK⟩ := hrel
      have hlen : (xs.take k).length = k := by rw [List.length_take]; have := HN0.out; omega
      have OUT := hide (chain_out (kk := kk) (t := xs.take k) HS.out (fun h => HK.out (by omega)) (by omega))
      have CL := hide (show (chainC kk (xs.take k)).length ≤ 10 by rw [chain_len]; omega)
      clear hlen
      by_cases hlt : k < n0
      · by_cases hlt2 : k < 10
        · have hlz : (k : Int) < n0 := by omega
          have hlz2 : (k : Int) < 10 := by omega
          obtain ⟨x, hx⟩ : ∃ x, xs[k]? = some x := ⟨xs[k]'(by have := HN0.out; omega), List.getElem?_eq_getElem (by have := HN0.out; omega)⟩
          have HX := hide hx
          clear hx
          have hrow : ∃ b off, a0 = some ⟨b, off, none⟩ ∧ wr.cell? ⟨b, off + k, none⟩ = some (.int .i64 x) := by
            rcases HR0.out.below HB.out with h | ⟨b, off, h1, h2⟩
            · have := HX.out; rw [h] at this; simp at this
            · exact ⟨b, off, h1, h2 k x HX.out⟩
          obtain ⟨b, off, rfl, hc⟩ := hrow
          cases hsx : secB x with
          | false =>
            have PX := hide (fun W => public_no x W hsx)
            clear hsx
            go_wp2_with (fail)
            refine (PX.out _).mono ?_
            rintro e wr ⟨rfl, rfl⟩
            go_wp2
            go_meet
            exact ⟨_, _, _, _, rfl, rfl, rfl, HO.out, HB.out, OUT.out, CL.out⟩
          | true =>
            have PX := hide (fun W => public_ok x W hsx)
            have HSX := hide hsx
            have HS2 : Hid (∀ y ∈ xs.take (k + 1), secB y = true) := by
              show ∀ y ∈ xs.take (k + 1), secB y = true
              rw [take_one HX.out]
              intro y hy
              rcases List.mem_append.1 hy with h | h
              · exact HS.out y h
              · rw [List.mem_singleton.1 h]; exact HSX.out
            have LS := hide (lst_take HX.out)
            clear hsx
            cases k with
            | zero =>
              have F1 := hide (fst_take_one HX.out)
              have C1 := hide (chain_take_one kk xs)
              generalize pwZ 64 x = q at *
              rw [show ((0 : Nat) : Int) = 0 from rfl]
              rw [Nat.add_zero] at hc
              have hn0z : (0 : Int) < n0 := by omega
              clear hlz hlz2
              go_wp2_with (fail)
              refine (PX.out _).mono ?_
              rintro e wr ⟨rfl, rfl⟩
              go_wp2
              go_roundw
              case rel => exact ⟨0 + 1, by omega, by omega, by go_num, by rw [F1.out], by rw [LS.out], (show OwnR 3 certV wr w.heap.size 33 _ (chainC kk (xs.take 1)) by rw [C1.out]; exact HO.out), HB.out, HS2.out, (fun h => by omega : 2 ≤ 0 + 1 → secB kk = true)⟩
              case measure => simp [intOf]
            | succ j =>
              obtain ⟨s, hs⟩ : ∃ s, xs[j]? = some s := ⟨xs[j]'(by have := HN0.out; omega), List.getElem?_eq_getElem (by have := HN0.out; omega)⟩
              have HSJ := hide hs
              clear hs
              have hcj : wr.cell? ⟨b, off + j, none⟩ = some (.int .i64 s) := by
                rcases HR0.out.below HB.out with h | ⟨b', off', h1, h2⟩
                · have := HX.out; rw [h] at this; simp at this
                · cases h1; exact h2 j s HSJ.out
              have hss := HS.out s (by rw [take_one HSJ.out]; simp)
              have MK := hide (fun W => make_any s kk (pwZ 64 x) W)
              have MT := hide (mkC_two s kk (pwZ 64 x))
              have MN := hide (fun h => mk_not (k := kk) (y := x) hss h)
              have MY := hide (show mkC s kk (pwZ 64 x) = 0 → secB kk = true from fun h => (sigC_zero (by rw [mkC_ok (pwZ_in x)] at h; exact h)).2.1)
              have CT := hide (chain_take (kk := kk) HSJ.out HX.out)
              have FT := hide (fst_take HX.out (Nat.succ_pos j))
              obtain ⟨⟨vk, vp, va⟩, hv⟩ : ∃ v : Int × Int × Int, v = mkV s kk (pwZ 64 x) := ⟨_, rfl⟩
              rw [← hv] at MK CT
              unfold certC at MK
              simp only [] at MK
              clear hv hss
              generalize mkC s kk (pwZ 64 x) = mc at *
              generalize pwZ 64 x = q at *
              go_wp2_with (fail)
              refine (PX.out _).mono ?_
              rintro e wr ⟨rfl, rfl⟩
              go_wp2_with (fail)
              refine (MK.out _).mono ?_
              rintro e w5 ⟨rfl, hb5⟩
              have hb6 := below_on hb5 (below_new w5 (.cells #[.int .i64 vk, .int .i64 vp, .int .i64 va] 33))
              have HB6 := hide (below_on HB.out hb6)
              have HO6 := hide (HO.out.below hb6)
              have hsz := HB6.out.size
              clear hb5 hb6
              rcases MT.out with rfl | rfl
              · have KS := hide (MY.out rfl)
                have LEN := hide (show (chainC kk (xs.take (j + 1))).length ≤ 1000000 by have := CL.out; omega)
                have HS6 := hide (show (w5.alloc (.cells #[.int .i64 vk, .int .i64 vp, .int .i64 va] 33)).heap.size = w5.heap.size + 1 by simp)
                rw [errV_zero]
                clear MK MT MN MY PX
                go_wp2_with (at_builtin; refine wpList_appR (n := 3) (cv := certV) rfl _ _ 28 rfl w.heap.size 33 _ 24 info_cell rfl (by omega) (by omega) Try.underlying28 certV_len certV_one _ (chainC kk (xs.take (j + 1))) rfl (HO6.out.alloc _) (w5.heap.size + 1) (vk, vp, va) rfl (cert_new _ vk vp va _ _ (by simp)) LEN.out (by simp at hsz ⊢; omega) ?_; intro v' w6 ho hgr)
                go_roundw
                case rel => exact ⟨j + 1 + 1, by omega, by omega, by go_num, by rw [FT.out], by rw [LS.out], (show OwnR 3 certV w6 w.heap.size 33 v' (chainC kk (xs.take (j + 1 + 1))) by rw [CT.out]; exact ho), (HB6.out.alloc hsz _).grown hgr (by simp at hsz ⊢; omega) (fun k hk => HO6.out.block k hk), HS2.out, (fun _ => KS.out : 2 ≤ j + 1 + 1 → secB kk = true)⟩
                case measure => simp [intOf]; omega
              · have NB := MN.out (by decide)
                rw [errV_one]
                clear MK MT MN MY PX
                by_cases h1 : kk < 1
                · go_wp2
                  go_ret
                  exact ⟨rfl, HB6.out⟩
                · have h2 : 256 < kk := by omega
                  clear NB
                  go_wp2
                  go_ret
                  exact ⟨rfl, HB6.out⟩
        · have hlz : (k : Int) < n0 := by omega
          have hlz2 : ¬ (k : Int) < 10 := by omega
          go_wp2
          go_meet
          exact ⟨_, _, _, _, rfl, rfl, rfl, HO.out, HB.out, OUT.out, CL.out⟩
      · have hlz : ¬ (k : Int) < n0 := by omega
        go_wp2
        go_meet
        exact ⟨_, _, _, _, rfl, rfl, rfl, HO.out, HB.out, OUT.out, CL.out⟩
  case rest =>
  obtain ⟨v, f, la, cs, rfl, rfl, rfl, ho, hb, hf, hcl⟩ := hcut
  obtain ⟨w2, hwa⟩ : ∃ wa, wa = wc := ⟨_, rfl⟩
  subst hwa
  obtain ⟨av, cv, rfl, _, hrow⟩ := ho.row certV_len
  have HRV := hide hrow
  have HB2 := hide hb
  have HF := hide hf
  clear ho hrow hb hf HB1 HR0 HN0
  have hcl' : cs.length ≤ maxLen := by unfold maxLen; omega
  have LM := hide (fun W => Cert.last_any f av cs cs.length cv W rfl hcl')
  have LR := hide (fun (W : World) hr => Cert.last_any root a3 l n3 c3 W HN3.out HM3.out hr)
  clear hcl' hcl
  go_upto_region 19 with (fail)
  go_cut [87] (fun s87 w' => s87 = .bool (decide (0 < f)) ∧ w' = w2)
  case first =>
    by_cases hf : 0 < f
    · have D := hide (decide_eq_true hf)
      go_wp2
      go_meet
      exact ⟨by rw [D.out], rfl⟩
    · have D := hide (decide_eq_false hf)
      go_wp2
      go_meet
      exact ⟨by rw [D.out], rfl⟩
  case rest =>
  obtain ⟨rfl, hw⟩ := hcut
  obtain ⟨w3, hwa⟩ : ∃ wa, wa = wc := ⟨_, rfl⟩
  subst hwa
  subst hw
  go_upto_if 87 with (fail)
  go_cut [21, 22, 87] (fun _ _ _ w' => Below w.heap.size w w')
  case first =>
    rcases HF.out with rfl | ⟨hf, e1, e2⟩
    · rw [show decide ((0 : Int) < 0) = false from rfl]
      go_wp2
      go_meet
      exact HB2.out
    · rw [decide_eq_true hf]
      rw [e1, e2, errV_zero] at LM
      clear e1 e2
      go_wp2_with (fail)
      refine (LM.out _ HRV.out).mono ?_
      rintro e w4 ⟨rfl, hb4⟩
      have HB4 := hide (below_on HB2.out hb4)
      clear hb4
      go_wp2
      go_meet
      exact HB4.out
  case rest =>
  have HB5 := hide hcut
  obtain ⟨w5, hwa⟩ : ∃ wa, wa = wc := ⟨_, rfl⟩
  subst hwa
  clear hcut HB2 HF LM HRV
  go_wp2_with (fail)
  refine (LR.out _ (HR3.out.below HB5.out)).mono ?_
  rintro e w6 ⟨rfl, hb6⟩
  have HB6 := hide (below_on HB5.out hb6)
  clear hb6 HB5
  by_cases hz : lastC root l = 0
  · have SP := hide (fun k => last_split (root := root) k hz)
    rw [hz, errV_zero]
    clear hz
    by_cases h0 : cut < 0
    · go_wp2
      go_ret
      exact ⟨rfl, HB6.out⟩
    · by_cases h1 : (n3 : Int) < cut
      · go_wp2
        go_ret
        exact ⟨rfl, HB6.out⟩
      · obtain ⟨c, rfl⟩ : ∃ c : Nat, cut = c := ⟨cut.toNat, by omega⟩
        have hcn : c ≤ n3 := by omega
        have hcc : c ≤ c3 := Nat.le_trans hcn HL3.out
        have hcz : (c : Int) ≤ (c3 : Int) := by omega
        have hnz : (n3 : Int) ≤ (c3 : Int) := by have := HL3.out; omega
        have HT := hide (show c = (l.take c).length by rw [List.length_take]; have := HN3.out; omega)
        have HD := hide (show n3 - c = (l.drop c).length by rw [List.length_drop]; have := HN3.out; omega)
        obtain ⟨s1, s2, s3⟩ := SP.out c
        go_wp2_with (fail)
        refine (Cert.last_any root a3 (l.take c) c c3 _ HT.out (Nat.le_trans hcn HM3.out) ((HR3.out.below HB6.out).take c)).mono ?_
        rintro e w7 ⟨rfl, hb7⟩
        rw [s1, errV_zero]
        have HB7 := hide (below_on HB6.out hb7)
        clear hb7 HB6 s1
        by_cases hcc3 : c3 = c
        · have hd0 : l.drop c = [] := List.drop_eq_nil_of_le (by have := HN3.out; have := HL3.out; omega)
          have hnc : n3 - c = 0 := by have := HL3.out; omega
          rw [hd0] at s2 s3
          have CL := hide (fun W => Cert.last_any (lastV root (l.take c)) a3 [] 0 0 W rfl (by unfold maxLen; omega) (RRow.nil _ _))
          rw [s2, s3, errV_zero] at CL
          clear s2 s3 hd0
          go_wp2_with (fail)
          refine (CL.out _).mono ?_
          rintro e w8 ⟨rfl, hb8⟩
          have HB8 := hide (below_on HB7.out hb8)
          clear hb8 HB7
          go_wp2
          go_ret
          exact ⟨by first | rfl | simp, HB8.out⟩
        · have CL := hide (fun (W : World) hr => Cert.last_any (lastV root (l.take c)) (a3.map (fun x => x.add (c * 3))) (l.drop c) (n3 - c) (c3 - c) W HD.out (Nat.le_trans (Nat.sub_le _ _) HM3.out) hr)
          rw [s2, s3, errV_zero] at CL
          clear s2 s3
          go_wp2_with (fail)
          refine (CL.out _ ((HR3.out.below HB7.out).dropO c)).mono ?_
          rintro e w8 ⟨rfl, hb8⟩
          have HB8 := hide (below_on HB7.out hb8)
          clear hb8 HB7
          go_wp2
          go_ret
          exact ⟨by first | rfl | simp, HB8.out⟩
  · have HE := hide (show errV 38 (lastC root l) = .iface 38 (.int .i64 (lastC root l)) by unfold errV; rw [if_neg hz])
    rw [HE.out]
    clear hz
    go_wp2
    go_ret
    exact ⟨rfl, HB6.out⟩
end Go.Proofs.Ytlmalnbfmokpoac.CertChain
