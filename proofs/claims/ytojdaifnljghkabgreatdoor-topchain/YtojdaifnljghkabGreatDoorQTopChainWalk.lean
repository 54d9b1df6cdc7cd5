/-
  The walk of stairtop.TopChain: it returns true, and memory that was there stays as it was.
-/
import Derived.Test.YtojdaifnljghkabGreatDoorQDeviceOb
import Derived.Test.YtojdaifnljghkabGreatDoorQTopChnMath
import Derived.Test.YtojdaifnljghkabGreatDoorQRecAt
import Derived.Test.YtojdaifnljghkabGreatDoorQCert1
import Derived.Test.YtojdaifnljghkabGreatDoorPack1
import Derived.Test.YtojdaifnljghkabGreatDoorQTopOne
import Derived.Test.YtojdaifnljghkabGreatDoorQCells
import Derived.Test.YtojdaifnljghkabGreatDoorPack2
import Derived.Deep.RegionHeld3
import Derived.Deep.QuietTactic
import Derived.BigQuiet
namespace Go.Proofs.YtojdaifnljghkabGreatDoor.TopChain
open Go.ChangeShapes Go.WideShapes Go.ChangeAt Go.RowKit
open Go.Proofs.YtojdaifnljghkabGreatDoor.M Go.Proofs.YtojdaifnljghkabGreatDoor.Device Go.Proofs.YtojdaifnljghkabGreatDoor.Image
set_option linter.unusedVariables false

theorem errV_no {T : TypeId} {k : Int} (h : ¬ k = 0) : errV T k = .iface T (.int .i64 k) := if_neg h
theorem blk_of {w0 W : World} {B b : Nat} {hB : B ≤ b} {o : Obj} {its : List (Thing B)} (h : M.Sep w0 B its W) (hm : blkI B b hB o ∈ its) : W.heap[b]? = some o := h.ok _ hm
theorem quiet_below {W : World} (n : Nat) : Below W.heap.size W (W.drewN n) := by
  induction n with
  | zero => exact Below.refl _ _
  | succ n ih => exact Below.drew ih
theorem info_cert : (Tryz.prog.info? 92).map (fun i => (i.zero, i.size, i.bytes)) = some (some (.agg #[.int .i64 0, .int .i64 0, .int .i64 0]), 3, 24) := by kernel_rfl
theorem cert_new (W : World) (x y z : Int) (t : TypeId) (b : Nat) (hb : W.heap.size = b) : ∀ (j : Nat) (u : Value), (certV (x, y, z))[j]? = some u → (W.alloc (.cells #[.int .i64 x, .int .i64 y, .int .i64 z] t)).cell? ⟨b, j, none⟩ = some u := by
  subst hb
  intro j u hu
  rw [cell_of_row _ _ _ _ t _ (blk_new W _)]
  simpa [certV] using hu
theorem chain_all {kk : Int} {t : List Int} (ha : ∀ x ∈ t, secB x = true) (hk : 2 ≤ t.length → secB kk = true) (hl : t.length ≤ 10) (h0 : ¬ t.length = 0) {la : Int} (hla : t[t.length - 1]? = some la) :
    inB (fstK t) = true ∧ lastC (fstK t) (chainC kk t) = 0 ∧ lastV (fstK t) (chainC kk t) = pwZ 64 la ∧ secB la = true := by
  have hm := ha la (List.mem_of_getElem? hla)
  have hl2 : lstK t = pwZ 64 la := by
    have h := lst_take hla
    rw [show t.length - 1 + 1 = t.length by omega, List.take_length] at h
    exact h
  cases t with
  | nil => exact absurd rfl h0
  | cons s r =>
    have hin : inB (fstK (s :: r)) = true := pwZ_in s
    rcases chain_out ha hk hl with h | ⟨_, h2, h3⟩
    · have := (inB_iff.1 hin).1
      omega
    · exact ⟨hin, h2, h3.trans hl2, hm⟩

set_option maxRecDepth 20000 in
set_option maxHeartbeats 8000000 in
theorem walk {Dvc : World → Nat → Value → (Nat → Prop) → DS → Prop} (LD : Core Dvc) (UL : UpdateLaw Dvc) (SL : StartLaw Dvc) (GL : GoodLaw Dvc) (RL : RunsLaw Dvc)
    (a0 : Option Addr) (n0 c0 : Nat) (xs : List Int) (k x : Int) (nm cd : ByteArray) (v : Int) (a4 : Option Addr) (n4 c4 : Nat) (vs : List Int) (w : World)
    (hn0 : n0 = xs.length) (hm0 : n0 ≤ maxLen) (hr0 : Row w a0 xs) (hsn : nm.size ≤ 140737488351232) (hsc : cd.size ≤ 140737488351232) (hn4 : n4 = vs.length) (hm4 : n4 ≤ maxLen) (hr4 : Row w a4 vs) (hh : Has w) (hg : As.Handle w) :
    Calls Tryz.prog 6 #[.slice a0 n0 c0, .int .i64 k, .int .i64 x, .agg #[.string nm, .int .i64 v, .string cd], .slice a4 n4 c4] w fun e w' => e = .returned (.bool true) ∧ Below w.heap.size w w' := by
  have HLD := hide LD
  have HUL := hide UL
  have HSL := hide SL
  have HGL := hide GL
  have HRL := hide RL
  have HH := hide (fun (W : World) (h : Below w.heap.size w W) => hh.below h)
  have HG := hide (fun (W : World) (h : Below w.heap.size w W) => hg.below h)
  have ON := hide (fun (W : World) (h : Below w.heap.size w W) => Top.one_any W (hh.below h))
  have SM := hide (fun (la z : Int) (W : World) (h : Below w.heap.size w W) => Sign.make_any la k z nm cd W hsn hsc (hh.below h))
  unfold imgC at SM
  have HSN := hide hsn
  have HSC := hide hsc
  have HN0 := hide hn0
  have HR0 := hide hr0
  have HN4 := hide hn4
  have HR4 := hide hr4
  have hm0' : n0 ≤ 9223372036854775807 := by unfold maxLen at hm0; omega
  have hm4' : n4 ≤ 9223372036854775807 := by unfold maxLen at hm4; omega
  have HS0 : Hid (M.Sep w w.heap.size [blkI w.heap.size w.heap.size (Nat.le_refl _) (.cells #[.string nm, .int .i64 v, .string cd] 23)] (w.alloc (.cells #[.string nm, .int .i64 v, .string cd] 23))) := (Sep.nil (Below.refl _ _) (Nat.le_refl _)).allocz (Nat.le_refl _) _
  clear LD UL SL GL RL hn0 hm0 hr0 hsn hsc hn4 hm4 hr4 hh hg
  go_enter Tryz.func6, Tryz.ntmps6
  go_wp2_with (fail)
  refine (ON.out _ HS0.out.lo).mono ?_
  rintro e w1 ⟨rfl, hb1⟩
  have HS1 := hide (HS0.out.below hb1)
  clear hb1 HS0 ON
  by_cases hz0 : n0 = 0
  · have hz0z : (n0 : Int) = 0 := by omega
    clear hz0
    go_wp2
    go_ret
    exact ⟨rfl, HS1.out.lo⟩
  have hz0b : ((n0 : Int) == 0) = false := by simp; omega
  by_cases hz10 : 10 < n0
  · have hz10z : (10 : Int) < n0 := by omega
    clear hz0 hz10
    go_wp2
    go_ret
    exact ⟨rfl, HS1.out.lo⟩
  have hz10z : ¬ (10 : Int) < n0 := by omega
  have HS2 : Hid (M.Sep w w.heap.size [rowI 3 certV w.heap.size 92 (.slice none 0 0) [], blkI w.heap.size w.heap.size (Nat.le_refl _) (.cells #[.string nm, .int .i64 v, .string cd] 23)] w1) :=
    HS1.out.add (i := rowI 3 certV w.heap.size 92 (.slice none 0 0) []) (Below.refl _ _) (OwnR.nil _ _ _) (fun b hb => by cases hb)
  clear HS1
  go_wp2
  go_loopw [12, 13, 14, 15, 16, 17] (fun s12 s13 s14 _ _ _ wr => ∃ (j : Nat) (ad : Option Addr) (cap : Nat), j ≤ n0 ∧ s12 = .slice ad (chainC k (xs.take j)).length cap ∧ s13 = .int .i64 (fstK (xs.take j)) ∧ s14 = .int .i64 j ∧ Hid (M.Sep w w.heap.size [rowI 3 certV w.heap.size 92 (.slice ad (chainC k (xs.take j)).length cap) (chainC k (xs.take j)), blkI w.heap.size w.heap.size (Nat.le_refl _) (.cells #[.string nm, .int .i64 v, .string cd] 23)] wr) ∧ Hid (∀ y ∈ xs.take j, secB y = true) ∧ Hid (2 ≤ j → secB k = true)) (fun _ _ s14 _ _ _ _ => n0 - (intOf s14).toNat)
  case atStart => exact ⟨0, none, 0, by omega, rfl, rfl, rfl, HS2.out, (fun y h => by simp at h : ∀ y ∈ xs.take 0, secB y = true), (fun h => by omega : 2 ≤ 0 → secB k = true)⟩
  case round =>
    obtain ⟨j, ad, cap, hj, rfl, rfl, rfl, HS, HA, HK⟩ := hrel
    clear HS2
    by_cases hlt : j < n0
    · as_aux_lemma =>
      have hlz : (j : Int) < n0 := by omega
      obtain ⟨y, hx⟩ : ∃ y, xs[j]? = some y := ⟨xs[j]'(by have := HN0.out; omega), List.getElem?_eq_getElem (by have := HN0.out; omega)⟩
      have HX := hide hx
      clear hx
      obtain ⟨b, off, rfl, hc⟩ : ∃ b off, a0 = some ⟨b, off, none⟩ ∧ wr.cell? ⟨b, off + j, none⟩ = some (.int .i64 y) := by
        rcases HR0.out.below HS.out.lo with h | ⟨b, off, h1, h2⟩
        · have := HX.out; rw [h] at this; simp at this
        · exact ⟨b, off, h1, h2 j y HX.out⟩
      cases hsx : secB y with
      | false =>
        have PX := hide (fun W => Key.public_no y W hsx)
        clear hsx
        go_wp2_with (fail)
        refine (PX.out _).mono ?_
        rintro e wz ⟨rfl, hw⟩
        rw [hw]
        clear hw
        go_wp2
        go_ret
        exact ⟨rfl, HS.out.lo⟩
      | true =>
        have PX := hide (fun W => Key.public_ok y W hsx)
        have HSX := hide hsx
        have HA2 : Hid (∀ u ∈ xs.take (j + 1), secB u = true) := by
          show ∀ u ∈ xs.take (j + 1), secB u = true
          rw [take_one HX.out]
          intro u hu
          rcases List.mem_append.1 hu with h | h
          · exact HA.out u h
          · rw [List.mem_singleton.1 h]; exact HSX.out
        clear hsx
        cases j with
        | zero =>
          have F1 := hide (fst_take_one HX.out)
          have C1 := hide (chain_take_one k xs)
          have C0 : Hid (chainC k (xs.take 0) = []) := rfl
          rw [C0.out] at HS
          generalize pwZ 64 y = q at *
          rw [show ((0 : Nat) : Int) = 0 from rfl, C0.out]
          rw [Nat.add_zero] at hc
          have hn0z : (0 : Int) < n0 := by omega
          clear hlz
          go_wp2_with (fail)
          refine (PX.out _).mono ?_
          rintro e wz ⟨rfl, hw⟩
          rw [hw]
          clear hw PX
          go_wp2
          go_roundw
          case rel => exact ⟨0 + 1, ad, cap, by omega, (by rw [C1.out]; rfl), (by rw [F1.out]), by go_num, (by rw [C1.out]; exact HS.out), HA2.out, (fun h => by omega : 2 ≤ 0 + 1 → secB k = true)⟩
          case measure => simp [intOf]; omega
        | succ i =>
          obtain ⟨s, hs⟩ : ∃ s, xs[i]? = some s := ⟨xs[i]'(by have := HN0.out; omega), List.getElem?_eq_getElem (by have := HN0.out; omega)⟩
          have HSJ := hide hs
          clear hs
          have hcj : wr.cell? ⟨b, off + i, none⟩ = some (.int .i64 s) := by
            rcases HR0.out.below HS.out.lo with h | ⟨b', off', h1, h2⟩
            · have := HX.out; rw [h] at this; simp at this
            · cases h1; exact h2 i s HSJ.out
          have MK := hide (fun W => Cert.make_any s k (pwZ 64 y) W)
          have MT := hide (mkC_two s k (pwZ 64 y))
          have MY := hide (show mkC s k (pwZ 64 y) = 0 → secB k = true from fun h => (sigC_zero (by rw [mkC_ok (pwZ_in y)] at h; exact h)).2.1)
          have CT := hide (chain_take (kk := k) HSJ.out HX.out)
          have FT := hide (fst_take HX.out (Nat.succ_pos i))
          have LEN := hide (show (chainC k (xs.take (i + 1))).length ≤ 1000000 by rw [chain_len, List.length_take]; omega)
          obtain ⟨⟨vk, vp, va⟩, hv⟩ : ∃ v : Int × Int × Int, v = mkV s k (pwZ 64 y) := ⟨_, rfl⟩
          rw [← hv] at MK CT
          unfold Cert.certC at MK
          simp only [] at MK
          clear hv
          generalize mkC s k (pwZ 64 y) = mc at *
          generalize pwZ 64 y = q at *
          generalize chainC k (xs.take (i + 1)) = cs at *
          go_wp2_with (fail)
          refine (PX.out _).mono ?_
          rintro e wz ⟨rfl, hw⟩
          rw [hw]
          clear hw PX
          go_wp2_with (fail)
          refine (MK.out _).mono ?_
          rintro e w5 ⟨rfl, hb5⟩
          have HS6 := hide (((HS.out.below hb5).below (below_new w5 (.cells #[.int .i64 vk, .int .i64 vp, .int .i64 va] 92))).below (below_new _ (.cells #[.int .i64 vk, .int .i64 vp, .int .i64 va] 92)))
          have HS5 := hide ((HS.out.below hb5).below (below_new w5 (.cells #[.int .i64 vk, .int .i64 vp, .int .i64 va] 92)))
          have hbs := HS6.out.hb
          clear hb5 HS MK
          rcases MT.out with rfl | rfl
          · have KS := hide (MY.out rfl)
            rw [errV_zero]
            clear MT MY HS5
            go_wp2_with (at_builtin; refine wpList_appRAt (n := 3) (cv := certV) rfl _ _ 29 rfl w.heap.size 92 _ 24 info_cert rfl (by omega) (by omega) Tryz.underlying29 certV_len (.slice ad cs.length cap) cs rfl HS6.out.p0 (w5.heap.size + 1) (vk, vp, va) (certV_one _) rfl (cert_new _ vk vp va _ _ (by simp)) LEN.out hbs ?_; intro v' w6 ho6 hg6 hat6; have hs6 := HS6.out.grow ho6 hg6 hat6; obtain ⟨a6, c6, hv6, _, _⟩ := OwnR.row certV_len ho6; subst hv6)
            have HS7 := hide hs6
            clear hs6 ho6 hg6 hat6 HS6 hbs
            go_wp2
            go_roundw
            case rel => exact ⟨i + 1 + 1, a6, c6, by omega, (by rw [CT.out, List.length_append]; rfl), (by rw [FT.out]), by go_num, (by rw [CT.out]; exact HS7.out), HA2.out, (fun _ => KS.out : 2 ≤ i + 1 + 1 → secB k = true)⟩
            case measure => simp [intOf]; omega
          · rw [errV_one]
            clear MT MY HS6
            go_wp2
            go_ret
            exact ⟨rfl, HS5.out.lo⟩
    · have hlz : ¬ (j : Int) < n0 := by omega
      have hjn : j = n0 := by omega
      subst hjn
      have htk : xs.take j = xs := by rw [HN0.out]; exact List.take_length
      rw [htk] at HA HS
      rw [htk]
      obtain ⟨m, rfl⟩ : ∃ m, j = m + 1 := ⟨j - 1, by omega⟩
      obtain ⟨la, hla⟩ : ∃ la, xs[m]? = some la := ⟨xs[m]'(by have := HN0.out; omega), List.getElem?_eq_getElem (by have := HN0.out; omega)⟩
      have hxl : xs.length = m + 1 := HN0.out.symm
      obtain ⟨hin, hlc, hlv, hls⟩ := chain_all (kk := k) (t := xs) HA.out (fun h => HK.out (by omega)) (by omega) (by omega) (by rw [hxl]; exact hla)
      obtain ⟨b, off, rfl, hc⟩ : ∃ b off, a0 = some ⟨b, off, none⟩ ∧ wr.cell? ⟨b, off + m, none⟩ = some (.int .i64 la) := by
        rcases HR0.out.below HS.out.lo with h | ⟨b, off, h1, h2⟩
        · rw [h] at hla; simp at hla
        · exact ⟨b, off, h1, h2 m la hla⟩
      have HCL := hide (show (chainC k xs).length ≤ 1000000 by rw [chain_len]; omega)
      have HIN := hide hin
      have HLC := hide hlc
      have HLV := hide hlv
      clear hin hlc hlv hls hla hxl HA HK htk hlz hj HN0 HR0
      generalize fstK xs = root at *
      generalize chainC k xs = cs at *
      have hi1 : wr.heap[w.heap.size]? = some (.cells #[.string nm, .int .i64 v, .string cd] 23) := HS.out.p1
      obtain ⟨r0, r1, r2⟩ := tri_cells hi1
      clear hi1
      have SM1 := hide (SM.out la v)
      by_cases hE : sgnE la k nm v cd = 0
      · rw [mkS_ok hE, hE, errV_zero] at SM1
        unfold sgnC at SM1
        have HSA : Hid (sgE (M.sgO la k nm v cd) = 0) := (sgnE_zero hE).1
        have DN := hide (fun (W : World) (h : ¬ dvcE root x (M.sgO la k nm v cd) = 0) => (show Calls Tryz.prog 7 #[.int .i64 root, .int .i64 x, .agg #[.string nm, .int .i64 v, .string cd, .int .i64 (sigP la k (meaV nm v cd)), .int .i64 (sigA la k (meaV nm v cd))]] W fun e w' => e = .returned (.tuple #[.pointer none, errV 96 (dvcE root x (M.sgO la k nm v cd))]) ∧ Below W.heap.size W w' from HLD.out.newNo root x (M.sgO la k nm v cd) W ⟨HSN.out, HSC.out⟩ h))
        have NW := hide (fun (W : World) (its : List (Thing w.heap.size)) (h : M.Sep w w.heap.size its W) (hz : dvcE root x (M.sgO la k nm v cd) = 0) => (show Calls Tryz.prog 7 #[.int .i64 root, .int .i64 x, .agg #[.string nm, .int .i64 v, .string cd, .int .i64 (sigP la k (meaV nm v cd)), .int .i64 (sigA la k (meaV nm v cd))]] W fun e w' => ∃ p S, e = .returned (.tuple #[p, .nilIface]) ∧ M.Sep w w.heap.size (dvcI HLD.out w.heap.size p S (newD root x (M.sgO la k nm v cd)) :: its) w' from Device.sep_new HLD.out root x (M.sgO la k nm v cd) ⟨HSN.out, HSC.out⟩ hz h))
        have HI0 : Hid (InvC root x nm v (newD root x (M.sgO la k nm v cd))) := chn_new (s := M.sgO la k nm v cd) HSA.out
        clear hE
        generalize sigP la k (meaV nm v cd) = p1 at SM1 DN NW
        generalize sigA la k (meaV nm v cd) = a1 at SM1 DN NW
        go_wp2_with (fail)
        refine (SM1.out _ HS.out.lo).mono ?_
        rintro e w2 ⟨rfl, hb2⟩
        have hx2 := (HS.out.below hb2).hb
        have HS2 := hide ((HS.out.below hb2).allocz hx2 (.cells #[.string nm, .int .i64 v, .string cd, .int .i64 p1, .int .i64 a1] 27))
        clear hb2 HS SM1 r0 r1 r2 hc
        have hi2 := blk_of HS2.out (b := w2.heap.size) (hB := hx2) (o := .cells #[.string nm, .int .i64 v, .string cd, .int .i64 p1, .int .i64 a1] 27) (by simp)
        obtain ⟨r0, r1, r2, r3, r4⟩ := quin_cells hi2
        clear hi2
        cases hsx : secB x with
        | false =>
          have hd1 : dvcE root x (M.sgO la k nm v cd) = 1 := dvcE_no (by rw [hsx, Bool.and_false])
          have DN1 := hide (fun W => DN.out W (by rw [hd1]; decide))
          rw [hd1, errV_one] at DN1
          have hxr : x < 1 ∨ ¬ x < 1 ∧ 256 < x := by
            have : ¬ (1 ≤ x ∧ x < 257) := fun hc => by rw [secB_iff.2 hc] at hsx; cases hsx
            omega
          clear hd1 hsx DN NW HI0
          go_wp2_with (fail)
          refine (DN1.out _).mono ?_
          rintro e w3 ⟨rfl, hb3⟩
          have HS3 := hide (HS2.out.below hb3)
          clear hb3 HS2 DN1 r0 r1 r2 r3 r4
          rcases hxr with h0 | ⟨h0, h1⟩
          · go_wp2
            go_ret
            exact ⟨rfl, HS3.out.lo⟩
          · go_wp2
            go_ret
            exact ⟨rfl, HS3.out.lo⟩
        | true =>
          have hd0 : dvcE root x (M.sgO la k nm v cd) = 0 := by rw [dvcE_img (by rw [HIN.out, hsx]; rfl)]; exact HSA.out
          have NW1 := hide (NW.out _ _ HS2.out hd0)
          clear DN NW hd0 hsx HSA
          generalize newD root x (M.sgO la k nm v cd) = d0 at *
          go_wp2_with (fail)
          refine NW1.out.mono ?_
          rintro e w3 ⟨p, S3, rfl, hd3⟩
          have HS3 : Hid (M.Sep w w.heap.size [dvcI HLD.out w.heap.size p S3 d0, rowI 3 certV w.heap.size 92 (.slice ad cs.length cap) cs, blkI w.heap.size w.heap.size (Nat.le_refl _) (.cells #[.string nm, .int .i64 v, .string cd] 23)] w3) := Sep.tail (hd3.perm (List.Perm.swap _ _ _))
          clear hd3 HS2 NW1 r0 r1 r2 r3 r4
          have hi3 : w3.heap[w.heap.size]? = some (.cells #[.string nm, .int .i64 v, .string cd] 23) := HS3.out.p2
          obtain ⟨r0, r1, r2⟩ := tri_cells hi3
          clear hi3
          go_wp2
          clear r0 r1 r2
          go_loopw [22, 23, 24, 25, 26, 27, 28, 29, 30] (fun s22 s23 _ _ _ _ _ _ _ wr => ∃ (i : Nat) (S : Nat → Prop) (d : DS) (g : Int), i ≤ 12 ∧ s22 = .int .i64 g ∧ s23 = .int .i64 i ∧ Hid (M.Sep w w.heap.size [dvcI HLD.out w.heap.size p S d, rowI 3 certV w.heap.size 92 (.slice ad cs.length cap) cs, blkI w.heap.size w.heap.size (Nat.le_refl _) (.cells #[.string nm, .int .i64 v, .string cd] 23)] wr) ∧ Hid (InvC root x nm g d)) (fun _ s23 _ _ _ _ _ _ _ _ => 12 - (intOf s23).toNat)
          case atStart => exact ⟨0, S3, d0, v, by omega, rfl, rfl, HS3.out, HI0.out⟩
          case round =>
            obtain ⟨i, S, d, g, h12, rfl, rfl, HS, HI⟩ := hrel
            clear HS3 HI0
            have HOK := hide (HLD.out.ok HS.out.p0)
            by_cases hlt : i < n4 ∧ i < 12
            · obtain ⟨hin, hi12⟩ := hlt
              have hinz : (i : Int) < n4 := by omega
              have hi12z : (i : Int) < 12 := by omega
              obtain ⟨z, hy⟩ : ∃ z, vs[i]? = some z := ⟨vs[i]'(by have := HN4.out; omega), List.getElem?_eq_getElem (by have := HN4.out; omega)⟩
              have hx4 := HS.out.hb
              have hrow : ∃ b off, a4 = some ⟨b, off, none⟩ ∧ (wr.alloc (.cells #[.string nm, .int .i64 v, .string cd] 23)).cell? ⟨b, off + i, none⟩ = some (.int .i64 z) := by
                rcases HR4.out.below (HS.out.below (below_new wr (.cells #[.string nm, .int .i64 v, .string cd] 23))).lo with h | ⟨b, off, h1, h2⟩
                · rw [h] at hy; simp at hy
                · exact ⟨b, off, h1, h2 i z hy⟩
              obtain ⟨b4, o4, rfl, hcell⟩ := hrow
              clear hy
              have hi4 : wr.heap[w.heap.size]? = some (.cells #[.string nm, .int .i64 v, .string cd] 23) := HS.out.p2
              obtain ⟨r0, r1, r2⟩ := tri_cells hi4
              have hb4 := blk_new wr (.cells #[.string nm, .int .i64 v, .string cd] 23)
              have HB4 := hide hb4
              obtain ⟨q0, q1, q2⟩ := tri_cells hb4
              obtain ⟨f0, f1, f2⟩ := tri_free hb4
              clear hi4 hb4
              have hsm := (HS.out.allocz hx4 (.cells #[.string nm, .int .i64 z, .string cd] 23)).perm (List.Perm.swap _ _ _)
              have HSM := hide hsm
              have hbm := blk_new wr (.cells #[.string nm, .int .i64 z, .string cd] 23)
              obtain ⟨m0, m1, m2⟩ := tri_cells hbm
              have SMz := hide (SM.out la z)
              clear hsm hbm HB4
              by_cases hEz : sgnE la k nm z cd = 0
              · rw [mkS_ok hEz, hEz, errV_zero] at SMz
                unfold sgnC at SMz
                have HSL2 := hide (show sldS (lastV root cs) (M.sgO la k nm z cd) = 0 by rw [HLV.out]; exact own_sld hEz)
                have UP := hide (fun (W : World) (S : Nat → Prop) (its : List (Thing w.heap.size)) (h : M.Sep w w.heap.size (dvcI HLD.out w.heap.size p S d :: its) W) (hr : RRow 3 certV W ad cs) => (show Calls Tryz.prog 13 #[p, .slice ad cs.length cap, .agg #[.string nm, .int .i64 z, .string cd, .int .i64 (sigP la k (meaV nm z cd)), .int .i64 (sigA la k (meaV nm z cd))]] W fun e w' => ∃ S', e = .returned (errV 96 (upeD d cs (M.sgO la k nm z cd))) ∧ M.Sep w w.heap.size (dvcI HLD.out w.heap.size p S' (updD d cs (M.sgO la k nm z cd)) :: its) w' from sep_upd HUL.out h ad cs cs.length cap (M.sgO la k nm z cd) rfl (by have := HCL.out; unfold maxLen; omega) hr ⟨HSN.out, HSC.out⟩ (HH.out _ h.lo)))
                clear hEz
                generalize sigP la k (meaV nm z cd) = p2 at SMz UP
                generalize sigA la k (meaV nm z cd) = a2 at SMz UP
                go_wp2_with (fail)
                refine (SMz.out _ HSM.out.lo).mono ?_
                rintro e w5 ⟨rfl, hb5⟩
                have hx5 := (HSM.out.below hb5).hb
                have HS5 := hide (((HSM.out.below hb5).allocz hx5 (.cells #[.string nm, .int .i64 z, .string cd, .int .i64 p2, .int .i64 a2] 27)).perm (List.Perm.swap _ _ _))
                clear hb5 HSM SMz r0 r1 r2 q0 q1 q2 f0 f1 f2 m0 m1 m2 hcell HS
                have hi5 := blk_of HS5.out (b := w5.heap.size) (hB := hx5) (o := .cells #[.string nm, .int .i64 z, .string cd, .int .i64 p2, .int .i64 a2] 27) (by simp)
                obtain ⟨r0, r1, r2, r3, r4⟩ := quin_cells hi5
                have hrr : RRow 3 certV (w5.alloc (.cells #[.string nm, .int .i64 z, .string cd, .int .i64 p2, .int .i64 a2] 27)) ad cs := by
                  have h0 : OwnR 3 certV (w5.alloc (.cells #[.string nm, .int .i64 z, .string cd, .int .i64 p2, .int .i64 a2] 27)) w.heap.size 92 (.slice ad cs.length cap) cs := HS5.out.ok (rowI 3 certV w.heap.size 92 (.slice ad cs.length cap) cs) (by simp)
                  obtain ⟨a', c', e, _, hr⟩ := OwnR.row certV_len h0
                  cases e
                  exact hr
                have UP1 := hide (UP.out _ _ _ HS5.out hrr)
                clear hi5 hrr UP
                by_cases hv : g < z
                · obtain ⟨y1, y2, y3, y4, y5, y6⟩ := chn_yes (s := M.sgO la k nm z cd) HOK.out HI.out ⟨HSN.out, HSC.out⟩ HLC.out HSL2.out rfl hv
                  rw [y1, errV_zero] at UP1
                  have HY4 : Hid (InvC root x nm z (gooD (staD (updD d cs (M.sgO la k nm z cd))))) := y4
                  have HY2 := hide y2
                  have HY3 := hide y3
                  have HY5 := hide y5
                  have HY6 : Hid ((gooD (staD (updD d cs (M.sgO la k nm z cd)))).v = z) := y6
                  clear y1 y2 y3 y4 y5 y6 HI HOK
                  generalize updD d cs (M.sgO la k nm z cd) = d1 at *
                  go_wp2_with (fail)
                  refine UP1.out.mono ?_
                  rintro e w6 ⟨S6, rfl, hd6⟩
                  have HS6 := hide hd6
                  have ST := hide (fun (W : World) (S : Nat → Prop) (its : List (Thing w.heap.size)) (h : M.Sep w w.heap.size (dvcI HLD.out w.heap.size p S d1 :: its) W) => sep_sta HSL.out h (HH.out _ h.lo))
                  rw [HY2.out] at ST
                  clear hd6 HS5 UP1 r0 r1 r2 r3 r4
                  have hi6 := blk_of HS6.out (b := wr.heap.size) (hB := hx4) (o := .cells #[.string nm, .int .i64 z, .string cd] 23) (by simp)
                  obtain ⟨r0, r1, r2⟩ := tri_cells hi6
                  clear hi6
                  go_wp2_with (fail)
                  go_quiet (fail)
                  have HS6q : Hid (M.Sep w w.heap.size (dvcI HLD.out w.heap.size p S6 d1 :: [blkI w.heap.size w5.heap.size hx5 (.cells #[.string nm, .int .i64 z, .string cd, .int .i64 p2, .int .i64 a2] 27), blkI w.heap.size wr.heap.size hx4 (.cells #[.string nm, .int .i64 z, .string cd] 23), rowI 3 certV w.heap.size 92 (.slice ad cs.length cap) cs, blkI w.heap.size w.heap.size (Nat.le_refl _) (.cells #[.string nm, .int .i64 v, .string cd] 23)]) (w6.drewN nq)) := HS6.out.below (quiet_below nq)
                  clear HS6 r0 r1 r2
                  generalize w6.drewN nq = w7 at *
                  have hi7 := blk_of HS6q.out (b := wr.heap.size) (hB := hx4) (o := .cells #[.string nm, .int .i64 z, .string cd] 23) (by simp)
                  obtain ⟨r0, r1, r2⟩ := tri_cells hi7
                  have ST1 := hide (ST.out _ _ _ HS6q.out)
                  clear ST HS6q hi7
                  go_wp2_with (fail)
                  refine ST1.out.mono ?_
                  rintro e w8 ⟨S8, rfl, hd8⟩
                  have GO := hide (sep_goo HGL.out hd8)
                  rw [HY3.out, errV_zero] at GO
                  clear hd8 ST1 r0 r1 r2
                  generalize gooD (staD d1) = d3 at *
                  go_wp2_with (fail)
                  refine GO.out.mono ?_
                  rintro e w9 ⟨S9, rfl, hd9⟩
                  have HS9 := hide hd9
                  have RU := hide (sep_run HRL.out hd9)
                  rw [HY5.out, HY6.out, show runD d3 = 0 by unfold runD; rw [HY5.out]; rfl, errV_zero] at RU
                  simp only [if_true] at RU
                  clear hd9 GO
                  have hi9 := blk_of HS9.out (b := wr.heap.size) (hB := hx4) (o := .cells #[.string nm, .int .i64 z, .string cd] 23) (by simp)
                  obtain ⟨r0, r1, r2⟩ := tri_cells hi9
                  clear hi9
                  generalize d3.nm = dn at *
                  generalize d3.cd = dc at *
                  go_wp2_with (fail)
                  refine RU.out.mono ?_
                  rintro e w10 ⟨rfl, hd10⟩
                  have hi10 := blk_new w10 (.cells #[.string dn, .int .i64 z, .string dc] 23)
                  obtain ⟨s0, s1, s2⟩ := tri_cells hi10
                  have HS10 : Hid (M.Sep w w.heap.size [dvcI HLD.out w.heap.size p S9 d3, rowI 3 certV w.heap.size 92 (.slice ad cs.length cap) cs, blkI w.heap.size w.heap.size (Nat.le_refl _) (.cells #[.string nm, .int .i64 v, .string cd] 23)] (w10.alloc (.cells #[.string dn, .int .i64 z, .string dc] 23))) :=
                    Sep.tail ((Sep.tail ((hd10.below (below_new w10 _)).perm (List.Perm.swap _ _ _))).perm (List.Perm.swap _ _ _))
                  clear hd10 RU HS9 hi10 r0 r1 r2
                  go_wp2
                  go_roundw
                  case rel => exact ⟨i + 1, S9, d3, z, by omega, rfl, by go_num, HS10.out, HY4.out⟩
                  case measure => simp [intOf]; omega
                · obtain ⟨y1, y2, y3, y4, y5, y6⟩ := chn_no (s := M.sgO la k nm z cd) HOK.out HI.out HLC.out HSL2.out rfl hv
                  rw [y1, y2, errV_no (show ¬ (9 : Int) = 0 by decide)] at UP1
                  have hdv : decide (g < z) = false := decide_eq_false hv
                  have HY4 : Hid (InvC root x nm g (staD d)) := y4
                  have HY3 := hide y3
                  have HY5 := hide y5
                  have HY6 := hide y6
                  clear y1 y2 y3 y4 y5 y6 HI HOK hv
                  go_wp2_with (fail)
                  refine UP1.out.mono ?_
                  rintro e w6 ⟨S6, rfl, hd6⟩
                  have hD6 : M.Sep w w.heap.size (dvcI HLD.out w.heap.size p S6 d :: [blkI w.heap.size w5.heap.size hx5 (.cells #[.string nm, .int .i64 z, .string cd, .int .i64 p2, .int .i64 a2] 27), blkI w.heap.size wr.heap.size hx4 (.cells #[.string nm, .int .i64 z, .string cd] 23), rowI 3 certV w.heap.size 92 (.slice ad cs.length cap) cs, blkI w.heap.size w.heap.size (Nat.le_refl _) (.cells #[.string nm, .int .i64 v, .string cd] 23)]) w6 := hd6
                  have ST := hide (fun (W : World) (S : Nat → Prop) (its : List (Thing w.heap.size)) (h : M.Sep w w.heap.size (dvcI HLD.out w.heap.size p S d :: its) W) => sep_sta HSL.out h (HH.out _ h.lo))
                  rw [HY3.out] at ST
                  have CE := hide (fun (W : World) (its : List (Thing w.heap.size)) (h : M.Sep w w.heap.size its W) => blk_of h (b := wr.heap.size) (hB := hx4) (o := .cells #[.string nm, .int .i64 z, .string cd] 23))
                  have HCL2 : Hid (∀ W, M.Sep w w.heap.size (dvcI HLD.out w.heap.size p S6 d :: [blkI w.heap.size w5.heap.size hx5 (.cells #[.string nm, .int .i64 z, .string cd, .int .i64 p2, .int .i64 a2] 27), blkI w.heap.size wr.heap.size hx4 (.cells #[.string nm, .int .i64 z, .string cd] 23), rowI 3 certV w.heap.size 92 (.slice ad cs.length cap) cs, blkI w.heap.size w.heap.size (Nat.le_refl _) (.cells #[.string nm, .int .i64 v, .string cd] 23)]) W → W.cell? ⟨wr.heap.size, 1, none⟩ = some (.int .i64 z)) := fun W h => (tri_cells (blk_of h (b := wr.heap.size) (hB := hx4) (o := .cells #[.string nm, .int .i64 z, .string cd] 23) (by simp))).2.1
                  have r1 := HCL2.out _ hD6
                  clear hd6 HS5 UP1 r0 r2 r3 r4 CE
                  go_wp2_with (fail)
                  go_region_held3 (fun W => W.cell? ⟨wr.heap.size, 1, none⟩ = some (.int .i64 z))
                    (exact HCL2.out _ (by repeat (first | assumption | with_reducible apply Sep.drew)))
                    (first | (go_at_call 10; refine (As.same_err 9 9 _ (HG.out _ (Sep.lo (its := dvcI HLD.out w.heap.size p S6 d :: [blkI w.heap.size w5.heap.size hx5 (.cells #[.string nm, .int .i64 z, .string cd, .int .i64 p2, .int .i64 a2] 27), blkI w.heap.size wr.heap.size hx4 (.cells #[.string nm, .int .i64 z, .string cd] 23), rowI 3 certV w.heap.size 92 (.slice ad cs.length cap) cs, blkI w.heap.size w.heap.size (Nat.le_refl _) (.cells #[.string nm, .int .i64 v, .string cd] 23)]) (by repeat (first | assumption | with_reducible apply Sep.drew))))).mono ?_; rintro e w7 ⟨rfl, hb7⟩; have hD7 := Sep.below (its := dvcI HLD.out w.heap.size p S6 d :: [blkI w.heap.size w5.heap.size hx5 (.cells #[.string nm, .int .i64 z, .string cd, .int .i64 p2, .int .i64 a2] 27), blkI w.heap.size wr.heap.size hx4 (.cells #[.string nm, .int .i64 z, .string cd] 23), rowI 3 certV w.heap.size 92 (.slice ad cs.length cap) cs, blkI w.heap.size w.heap.size (Nat.le_refl _) (.cells #[.string nm, .int .i64 v, .string cd] 23)]) (by repeat (first | assumption | with_reducible apply Sep.drew)) hb7; clear hb7; have r7 := HCL2.out _ hD7))
                  all_goals
                    have ST1 := hide (ST.out _ _ _ hD7)
                    clear ST hD7 hD6 r1 r7 HCL2
                    go_wp2_with (fail)
                    refine ST1.out.mono ?_
                    rintro e w8 ⟨S8, rfl, hd8⟩
                    have RU := hide (sep_run HRL.out hd8)
                    rw [HY5.out, HY6.out, show runD (staD d) = 0 by unfold runD; rw [HY5.out]; rfl, errV_zero] at RU
                    simp only [if_true] at RU
                    clear hd8 ST1
                    generalize staD d = d3 at *
                    generalize d3.nm = dn at *
                    generalize d3.cd = dc at *
                    go_wp2_with (fail)
                    refine RU.out.mono ?_
                    rintro e w10 ⟨rfl, hd10⟩
                    have hi10 := blk_new w10 (.cells #[.string dn, .int .i64 g, .string dc] 23)
                    obtain ⟨s0, s1, s2⟩ := tri_cells hi10
                    have HS10 : Hid (M.Sep w w.heap.size [dvcI HLD.out w.heap.size p S8 d3, rowI 3 certV w.heap.size 92 (.slice ad cs.length cap) cs, blkI w.heap.size w.heap.size (Nat.le_refl _) (.cells #[.string nm, .int .i64 v, .string cd] 23)] (w10.alloc (.cells #[.string dn, .int .i64 g, .string dc] 23))) :=
                      Sep.tail ((Sep.tail ((hd10.below (below_new w10 _)).perm (List.Perm.swap _ _ _))).perm (List.Perm.swap _ _ _))
                    clear hd10 RU hi10
                    go_wp2
                    go_roundw
                    case rel => exact ⟨i + 1, S8, d3, g, by omega, rfl, by go_num, HS10.out, HY4.out⟩
                    case measure => simp [intOf]; omega
              · rw [mkS_no hEz, errV_no hEz] at SMz
                unfold sgnC at SMz
                go_wp2_with (fail)
                refine (SMz.out _ HSM.out.lo).mono ?_
                rintro e w5 ⟨rfl, hb5⟩
                have HS5 : Hid (M.Sep w w.heap.size [dvcI HLD.out w.heap.size p S d, rowI 3 certV w.heap.size 92 (.slice ad cs.length cap) cs, blkI w.heap.size w.heap.size (Nat.le_refl _) (.cells #[.string nm, .int .i64 v, .string cd] 23)] (w5.alloc (.cells #[.string { data := #[] }, .int .i64 0, .string { data := #[] }, .int .i64 0, .int .i64 0] 27))) := Sep.tail (((HSM.out.below hb5).below (below_new w5 _)).perm (List.Perm.swap _ _ _))
                clear hb5 HSM SMz r0 r1 r2 q0 q1 q2 f0 f1 f2 m0 m1 m2 hcell HS
                go_wp2
                go_roundw
                case rel => exact ⟨i + 1, S, d, g, by omega, rfl, by go_num, HS5.out, HI.out⟩
                case measure => simp [intOf]; omega
            · by_cases hin : i < n4
              · have hinz : (i : Int) < n4 := by omega
                have hi12z : ¬ (i : Int) < 12 := by omega
                clear hlt
                go_wp2
                go_ret
                exact ⟨rfl, HS.out.lo⟩
              · have hinz : ¬ (i : Int) < n4 := by omega
                clear hlt
                go_wp2
                go_ret
                exact ⟨rfl, HS.out.lo⟩
      · rw [mkS_no hE, errV_no hE] at SM1
        unfold sgnC at SM1
        go_wp2_with (fail)
        refine (SM1.out _ HS.out.lo).mono ?_
        rintro e w2 ⟨rfl, hb2⟩
        have HS2 := hide ((HS.out.below hb2).below (below_new w2 (.cells #[.string { data := #[] }, .int .i64 0, .string { data := #[] }, .int .i64 0, .int .i64 0] 27)))
        go_wp2
        go_ret
        exact ⟨rfl, HS2.out.lo⟩
end Go.Proofs.YtojdaifnljghkabGreatDoor.TopChain
