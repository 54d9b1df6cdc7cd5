/-
  The walk of stairlaw3.RunAnswers, over what is to be proved of the program's Run: it returns true, and memory that was there stays as it was.
-/
import Derived.Test.YtjkcplpmhjnahaaGreatDoorPack1
import Derived.Test.YtjkcplpmhjnahaaGreatDoorQDeskRef
import Derived.Deep.DeepCutAuto
namespace Go.Proofs.YtjkcplpmhjnahaaGreatDoor.RunAnswers
open Go.ChangeShapes Go.WideShapes Go.ChangeAt Go.RowKit
open Go.Proofs.YtjkcplpmhjnahaaGreatDoor.M Go.Proofs.YtjkcplpmhjnahaaGreatDoor.Run Go.Proofs.YtjkcplpmhjnahaaGreatDoor.Desk
set_option linter.unusedVariables false

theorem app_line (l x : List UInt8) : ({ data := l.toArray } : ByteArray) ++ { data := x.toArray } ++ { data := #[10] } = { data := (l ++ (x ++ [10])).toArray } := by
  rw [show ({ data := #[10] } : ByteArray) = { data := [10].toArray } from rfl, Ref.append_text, Ref.append_text, List.append_assoc]
set_option maxHeartbeats 8000000 in
theorem walk {Has : World → Prop} (RL : RunLaw Has) (s : ByteArray) (w : World) (hs : s.size ≤ 140737488351232) (hh : Has w) :
    Calls Tryz.prog 3 #[.string s] w fun e w' => e = .returned (.bool true) ∧ Below w.heap.size w w' := by
  have RU := hide (RL s w hs hh)
  have hsl : s.data.toList.length = s.size := rfl
  by_cases hl : 3000 < s.size
  · have hT : ansT s.data.toList = tooLong := by unfold ansT; rw [if_pos (by omega)]
    rw [hT] at RU
    have hq : (({ data := tooLong.toArray } : ByteArray).toList == [116, 111, 111, 32, 108, 111, 110, 103, 10]) = true := lst_yes rfl
    have hlz : (3000 : Int) < s.size := by omega
    generalize ({ data := tooLong.toArray } : ByteArray) = got at *
    clear hT hs hh hsl hl
    go_enter Tryz.func3, Tryz.ntmps3
    go_wp2_with (fail)
    refine RU.out.mono ?_
    rintro e w1 ⟨rfl, hb1⟩
    go_wp2
    go_ret
    exact ⟨rfl, hb1⟩
  · have hT : ansT s.data.toList = runA dk0 (linesL s.data.toList) := by unfold ansT; rw [if_neg (by omega)]
    rw [hT] at RU
    have hlz : ¬ (3000 : Int) < s.size := by omega
    have CU := hide (fun W => Ref.cutAt_any 10 10 (by decide) s W (by omega))
    have HCL := hide (cutG_len 10 s.data.toList [])
    have HCS := hide (fun (x : List UInt8) (h : x ∈ cutG 10 [] s.data.toList) => cutG_size 10 s.data.toList [] x h)
    have HSL := hide hsl
    have HL := hide hl
    obtain ⟨got, hgot⟩ : ∃ g : ByteArray, g = { data := (runA dk0 (linesL s.data.toList)).toArray } := ⟨_, rfl⟩
    rw [← hgot] at RU
    have HGOT := hide hgot
    clear hT hs hh hsl hl hgot
    go_enter Tryz.func3, Tryz.ntmps3
    go_wp2_with (fail)
    refine RU.out.mono ?_
    rintro e w1 ⟨rfl, hb1⟩
    have HB1 := hide hb1
    clear hb1 RU
    go_wp2_with (fail)
    refine (CU.out _).mono ?_
    rintro e w2 ⟨⟨vw, ps, rfl, ho, hps⟩, hb2⟩
    have HB2 := hide (below_on HB1.out hb2)
    clear hb2 HB1 CU
    have hpl : 0 < ps.length := by
      have h1 := congrArg List.length hps
      rw [List.length_map] at h1
      have h2 := cutG_ne 10 s.data.toList []
      have h3 : 0 < (cutG 10 [] s.data.toList).length := List.length_pos_iff.2 h2
      omega
    have hpn : ps.length ≤ 3001 := by
      have h1 := congrArg List.length hps
      rw [List.length_map] at h1
      have h2 := HCL.out
      have h3 := HSL.out
      have h4 := HL.out
      omega
    obtain ⟨gw, cw, rfl, hw1, hw2, hw3⟩ := own_row1 txtV_len (own_txt ho) hpl
    clear hw3
    have HW := hide (words_keep (own_txt ho))
    obtain ⟨m, hm⟩ : ∃ m, ps.length = m + 1 := ⟨ps.length - 1, by omega⟩
    obtain ⟨pl, hp⟩ : ∃ x, ps[m]? = some x := ⟨ps[m]'(by omega), List.getElem?_eq_getElem (by omega)⟩
    have HLS := hide (lines_are hps hm hp)
    have HPZ : Hid (∀ x ∈ ps, x.size ≤ 3000) := fun x hx => by
      have h1 := HCS.out x.data.toList (by rw [← hps]; exact List.mem_map.2 ⟨x, hx, rfl⟩)
      have h2 : x.data.toList.length = x.size := rfl
      have h3 := HSL.out
      have h4 := HL.out
      have h5 : ([] : List UInt8).length = 0 := rfl
      omega
    have cl := HW.out _ (Below.refl _ _) m pl hp
    have hcw : m + 1 ≤ cw := by omega
    have hcz : (m : Int) ≤ cw := by omega
    have hcm : (cw : Int) ≤ 9223372036854775807 := by unfold maxLen at hw2; omega
    rw [hm]
    clear ho hps hw1 hw2 HCS HCL hp
    have HBT := hide (show pl.toList.isEmpty = true → pl.data.toList = [] from fun h => by rw [Lib.toList_data] at h; exact List.isEmpty_iff.1 h)
    have HBF := hide (show pl.toList.isEmpty = false → ¬ pl.data.toList = [] from fun h e => by rw [Lib.toList_data, e] at h; cases h)
    go_upto_if 24 with (fail)
    generalize pl.toList.isEmpty = be at *
    go_cut [4, 24] (fun s4 _ w' => ∃ k : Nat, s4 = .slice (some ⟨gw, 0, none⟩) k cw ∧ k ≤ ps.length ∧ Hid (linesL s.data.toList = (ps.take k).map (fun x => x.data.toList)) ∧ w' = w2)
    case first =>
      cases be with
      | true =>
        have HLK := hide (HLS.out.trans (if_pos (HBT.out rfl)))
        go_wp2
        go_meet
        exact ⟨m, rfl, by omega, HLK, rfl⟩
      | false =>
        have HLK := hide (HLS.out.trans (if_neg (HBF.out rfl)))
        go_wp2
        go_meet
        exact ⟨m + 1, rfl, by omega, by rw [← hm, List.take_length]; exact HLK.out, rfl⟩
    case rest =>
    obtain ⟨k, rfl, hk, HLK, rfl⟩ := hcut
    clear HLS cl HBT HBF
    have HLL : Hid ((linesL s.data.toList).length = k) := by
      rw [HLK.out, List.length_map, List.length_take]
      exact Nat.min_eq_left hk
    obtain ⟨S0, hD0, hS0⟩ := deskLaw.new wc wc.heap.size (Nat.le_refl _)
    have HD0 := hide hD0
    have HB3 := hide (below_new wc deskO)
    have HZS : Hid (({ data := (runA dk0 ((linesL s.data.toList).take 0)).toArray } : ByteArray) = { data := #[] }) := rfl
    clear hD0 hS0
    unfold deskO at HD0 HB3
    go_wp2
    go_loopw [6, 7, 8] (fun s6 s7 _ wr => ∃ (i : Nat) (S : Nat → Prop), i ≤ k ∧ s7 = .int .i64 i ∧ s6 = .string { data := (runA dk0 ((linesL s.data.toList).take i)).toArray } ∧ Hid (Ds wr wc.heap.size wc.heap.size S (dkA dk0 ((linesL s.data.toList).take i))) ∧ Hid (Below wc.heap.size wc wr)) (fun _ s7 _ _ => k - (intOf s7).toNat)
    case atStart => exact ⟨0, S0, by omega, rfl, rfl, HD0.out, HB3.out⟩
    case round =>
      clear HD0 HB3
      obtain ⟨i, S, hi, rfl, rfl, HD, HB⟩ := hrel
      by_cases hlt : i < k
      · have hltz : (i : Int) < k := by omega
        obtain ⟨px, hpx⟩ : ∃ x, ps[i]? = some x := ⟨ps[i]'(by omega), List.getElem?_eq_getElem (by omega)⟩
        have hli : (linesL s.data.toList)[i]? = some px.data.toList := by
          rw [HLK.out, List.getElem?_map, List.getElem?_take_of_lt hlt, hpx]
          rfl
        have cx := HW.out _ HB.out i px hpx
        have hbz := HB.out.size
        have LN := hide (deskLaw.line wc.heap.size S _ px wr wc.heap.size HD.out (HPZ.out px (List.mem_of_getElem? hpx)) hbz)
        have hr1 := runA_len ((linesL s.data.toList).take i) dk0
        have hr2 := lineA_len (dkA dk0 ((linesL s.data.toList).take i)) px.data.toList
        have hr3 : ((linesL s.data.toList).take i).length ≤ 3001 := by rw [List.length_take, HLL.out]; omega
        have HSN := hide (runA_snoc ((linesL s.data.toList).take i) dk0 px.data.toList)
        have HTS := hide (take_snoc hli)
        have HAP := hide (app_line (runA dk0 ((linesL s.data.toList).take i)) (lineA (dkA dk0 ((linesL s.data.toList).take i)) px.data.toList).1)
        have hsa : ({ data := (runA dk0 ((linesL s.data.toList).take i)).toArray } : ByteArray).size ≤ 63021 := by rw [dig_size]; omega
        have hsb : ({ data := (lineA (dkA dk0 ((linesL s.data.toList).take i)) px.data.toList).1.toArray } : ByteArray).size ≤ 20 := by rw [dig_size]; omega
        rw [← HSN.out.1, ← HTS.out] at HAP
        have HDN : Hid (∀ (W : World) (S : Nat → Prop), Ds W wc.heap.size wc.heap.size S (lineA (dkA dk0 ((linesL s.data.toList).take i)) px.data.toList).2 → Ds W wc.heap.size wc.heap.size S (dkA dk0 ((linesL s.data.toList).take (i + 1)))) := fun W S h => by rw [HTS.out, HSN.out.2]; exact h
        generalize ({ data := (runA dk0 ((linesL s.data.toList).take i)).toArray } : ByteArray) = sa at *
        generalize ({ data := (lineA (dkA dk0 ((linesL s.data.toList).take i)) px.data.toList).1.toArray } : ByteArray) = sb at *
        have hz1 : ¬ 9223372036854775807 < sa.size + sb.size := by omega
        have hz2 : ¬ 9223372036854775807 < sa.size + sb.size + 1 := by omega
        have HHS := hide (deskLaw.has HD.out)
        clear hpx hli hr1 hr2 hr3 HSN HTS hsa hsb
        go_wp2_with (fail)
        refine LN.out.mono ?_
        rintro e w5 ⟨S5, rfl, hD5, ho5, hf5⟩
        have HD5 := hide (HDN.out _ _ hD5)
        have HB5 := hide (HB.out.trans (ho5.below hbz (fun b hb => (HHS.out b hb).1)))
        clear hD5 ho5 hf5 LN cx
        go_wp2
        go_roundw
        case rel => exact ⟨i + 1, S5, by omega, by go_num, by rw [← HAP.out], HD5.out, HB5.out⟩
        case measure => simp [intOf]; omega
      · have hie : i = k := by omega
        subst hie
        have hltz : ¬ (i : Int) < i := by omega
        have hge : ({ data := (runA dk0 ((linesL s.data.toList).take i)).toArray } : ByteArray) = got := by rw [HGOT.out, List.take_of_length_le (by rw [HLL.out]; exact Nat.le_refl _)]
        rw [hge]
        clear hge
        go_wp2
        go_ret
        exact ⟨rfl, below_on HB2.out HB.out⟩
end Go.Proofs.YtjkcplpmhjnahaaGreatDoor.RunAnswers
