/-
  The walk of stairlaw3.RunSeals: it returns true, and memory that was there stays as it was.
-/
import Derived.Test.YtjkcplpmhjnahaaGreatDoorPack1
import Derived.Test.YtjkcplpmhjnahaaGreatDoorQRunSealsMath
import Derived.Deep.RegionHeld3
namespace Go.Proofs.YtjkcplpmhjnahaaGreatDoor.RunSeals
open Go.ChangeShapes Go.WideShapes Go.ChangeAt Go.RowKit
open Go.Proofs.YtjkcplpmhjnahaaGreatDoor.M Go.Proofs.YtjkcplpmhjnahaaGreatDoor.Run
set_option linter.unusedVariables false

def noT : ByteArray := { data := #[115, 105, 103, 110, 32, 48, 32, 49, 32, 49, 10] }
set_option maxRecDepth 100000 in
theorem no_ans : ansT noT.data.toList = [69, 114, 114, 82, 97, 110, 103, 101, 10] := by decide +kernel
theorem app_list (a b : ByteArray) : (a ++ b).data.toList = a.data.toList ++ b.data.toList := by simp [ByteArray.data_append]
theorem dec_size {n : Nat} (h : n < 10000000) : ({ data := (Lib.decDigits n).toArray } : ByteArray).size ≤ 7 := by
  show (Lib.decDigits n).toArray.size ≤ 7
  simpa using dec_len7 h
theorem bytes_eq {s u : ByteArray} (h : s.data.toList = u.data.toList) : s = u := by
  cases s
  cases u
  simpa [ByteArray.mk.injEq, Array.toList_inj] using h
theorem cell_below {W W' : World} {a : Addr} {v : Value} (hb : Below W.heap.size W W') (h : W.cell? a = some v) : W'.cell? a = some v := (hb.cell (World.block_lt_of_cell? W _ h)).trans h
theorem bytes_list (l : List UInt8) : ({ data := l.toArray } : ByteArray).data.toList = l := by simp
theorem three {ps : List ByteArray} {a b : List UInt8} (h : ps.map (fun x => x.data.toList) = [a, b, []]) : ∃ z, ps = [{ data := a.toArray }, { data := b.toArray }, z] := by
  match ps, h with
  | [], h => simp at h
  | [_], h => simp at h
  | [_, _], h => simp at h
  | [p, q, z], h =>
    simp at h
    refine ⟨z, ?_⟩
    rw [show p = { data := a.toArray } from bytes_eq (by simpa using h.1), show q = { data := b.toArray } from bytes_eq (by simpa using h.2.1)]
  | _ :: _ :: _ :: _ :: _, h => simp at h

set_option maxRecDepth 20000 in
set_option maxHeartbeats 8000000 in
theorem walk {Has : World → Prop} (RL : RunLaw Has) (x k m : Int) (w : World) (hh : ∀ W, Below w.heap.size w W → Has W) :
    Calls Tryz.prog 5 #[.int .i64 x, .int .i64 k, .int .i64 m] w fun e w' => e = .returned (.bool true) ∧ Below w.heap.size w w' := by
  have RN := hide (fun (s : ByteArray) (hz : s.size ≤ 140737488351232) (W : World) (h : Below w.heap.size w W) => RL s W hz (hh W h))
  have R0 := hide (RN.out noT (by decide) w (Below.refl _ _))
  rw [no_ans] at R0
  unfold noT at R0
  clear RL hh
  by_cases h1 : x < 1
  · go_enter Tryz.func5, Tryz.ntmps5
    go_wp2_with (fail)
    refine R0.out.mono ?_
    rintro e w1 ⟨rfl, hb1⟩
    go_wp2
    go_ret
    exact ⟨rfl, hb1⟩
  by_cases h2 : 256 < x
  · go_enter Tryz.func5, Tryz.ntmps5
    go_wp2_with (fail)
    refine R0.out.mono ?_
    rintro e w1 ⟨rfl, hb1⟩
    go_wp2
    go_ret
    exact ⟨rfl, hb1⟩
  by_cases h3 : k < 1
  · go_enter Tryz.func5, Tryz.ntmps5
    go_wp2_with (fail)
    refine R0.out.mono ?_
    rintro e w1 ⟨rfl, hb1⟩
    go_wp2
    go_ret
    exact ⟨rfl, hb1⟩
  by_cases h4 : 256 < k
  · go_enter Tryz.func5, Tryz.ntmps5
    go_wp2_with (fail)
    refine R0.out.mono ?_
    rintro e w1 ⟨rfl, hb1⟩
    go_wp2
    go_ret
    exact ⟨rfl, hb1⟩
  by_cases h5 : m < 0
  · go_enter Tryz.func5, Tryz.ntmps5
    go_wp2_with (fail)
    refine R0.out.mono ?_
    rintro e w1 ⟨rfl, hb1⟩
    go_wp2
    go_ret
    exact ⟨rfl, hb1⟩
  by_cases h6 : 1000002 < m
  · go_enter Tryz.func5, Tryz.ntmps5
    go_wp2_with (fail)
    refine R0.out.mono ?_
    rintro e w1 ⟨rfl, hb1⟩
    go_wp2
    go_ret
    exact ⟨rfl, hb1⟩
  obtain ⟨x, rfl⟩ : ∃ n : Nat, x = n := ⟨x.toNat, by omega⟩
  obtain ⟨k, rfl⟩ : ∃ n : Nat, k = n := ⟨k.toNat, by omega⟩
  obtain ⟨m, rfl⟩ : ∃ n : Nat, m = n := ⟨m.toNat, by omega⟩
  have hx : secB x = true := secB_iff.2 (by omega)
  have hk : secB k = true := secB_iff.2 (by omega)
  have hm : isM m = true := isM_iff.2 (by omega)
  obtain ⟨b1, b2, b3, b4, ⟨b5, b6⟩, b7, b8⟩ := seal_nums hx hk hm
  have b9 := (pub_lt x).1
  have DX := hide (fun W => Ref.digits_any x x W (Nat.le_refl _) (by omega))
  have DK := hide (fun W => Ref.digits_any k k W (Nat.le_refl _) (by omega))
  have DM := hide (fun W => Ref.digits_any m m W (Nat.le_refl _) (by omega))
  have zx := dec_size b1
  have zk := dec_size b2
  have zm := dec_size b3
  have HQ := hide (seal_first hx hk hm)
  have HC := hide (seal_check hx hk hm)
  have HL0 : Hid ((digs (pwZ 64 x)).length ≤ 7) := dec_len7 b9
  have HL1 : Hid ((sealA x k m).length ≤ 15) := by
    show (sealA x k m).length ≤ 15
    unfold sealA
    have l1 := dec_len7 b5
    have l2 := dec_len7 b7
    unfold digs
    simp only [List.length_append, List.length_cons, List.length_nil]
    omega
  have HX : Hid (({ data := (Lib.decDigits x).toArray } : ByteArray).data.toList = Lib.decDigits x) := by show (Lib.decDigits x).toArray.toList = _; simp
  have HK : Hid (({ data := (Lib.decDigits k).toArray } : ByteArray).data.toList = Lib.decDigits k) := by show (Lib.decDigits k).toArray.toList = _; simp
  have HM : Hid (({ data := (Lib.decDigits m).toArray } : ByteArray).data.toList = Lib.decDigits m) := by show (Lib.decDigits m).toArray.toList = _; simp
  clear hx hk hm b1 b2 b3 b4 b5 b6 b7 b8 b9 R0
  generalize ({ data := (Lib.decDigits x).toArray } : ByteArray) = TX at *
  generalize ({ data := (Lib.decDigits k).toArray } : ByteArray) = TK at *
  generalize ({ data := (Lib.decDigits m).toArray } : ByteArray) = TM at *
  have q1 : ¬ 9223372036854775807 < 7 + TX.size := by omega
  have q2 : ¬ 9223372036854775807 < 7 + TX.size + 6 := by omega
  have q3 : ¬ 9223372036854775807 < 7 + TX.size + 6 + TX.size := by omega
  have q4 : ¬ 9223372036854775807 < 7 + TX.size + 6 + TX.size + 1 := by omega
  have q5 : ¬ 9223372036854775807 < 7 + TX.size + 6 + TX.size + 1 + TK.size := by omega
  have q6 : ¬ 9223372036854775807 < 7 + TX.size + 6 + TX.size + 1 + TK.size + 1 := by omega
  have q7 : ¬ 9223372036854775807 < 7 + TX.size + 6 + TX.size + 1 + TK.size + 1 + TM.size := by omega
  have q8 : ¬ 9223372036854775807 < 7 + TX.size + 6 + TX.size + 1 + TK.size + 1 + TM.size + 1 := by omega
  go_enter Tryz.func5, Tryz.ntmps5
  go_wp2_with (fail)
  refine (DX.out _).mono ?_
  rintro e w1 ⟨rfl, hw⟩
  rw [hw]
  clear hw DX
  go_wp2_with (fail)
  refine (DK.out _).mono ?_
  rintro e w2 ⟨rfl, hw⟩
  rw [hw]
  clear hw DK
  go_wp2_with (fail)
  refine (DM.out _).mono ?_
  rintro e w3 ⟨rfl, hw⟩
  rw [hw]
  clear hw DM
  have e1 : ({ data := #[112, 117, 98, 108, 105, 99, 32] } ++ TX ++ { data := #[10, 115, 105, 103, 110, 32] } ++ TX ++ { data := #[32] } ++ TK ++ { data := #[32] } ++ TM ++ { data := #[10] } : ByteArray).data.toList = sealT x k m := by
    simp only [app_list, HX.out, HK.out, HM.out]
    unfold sealT kwPublic kwSign
    simp
  have R1 := hide (RN.out ({ data := #[112, 117, 98, 108, 105, 99, 32] } ++ TX ++ { data := #[10, 115, 105, 103, 110, 32] } ++ TX ++ { data := #[32] } ++ TK ++ { data := #[32] } ++ TM ++ { data := #[10] }) (by simp only [ByteArray.size_append]; show 7 + TX.size + 6 + TX.size + 1 + TK.size + 1 + TM.size + 1 ≤ 140737488351232; omega) w (Below.refl _ _))
  rw [e1, HQ.out] at R1
  have CU := hide (fun W => Ref.cutAt_any 10 10 rfl { data := (digs (pwZ 64 x) ++ 10 :: (sealA x k m ++ [10])).toArray } W (by
    show (digs (pwZ 64 x) ++ 10 :: (sealA x k m ++ [10])).toArray.size ≤ 1048576
    have := HL0.out
    have := HL1.out
    simp
    omega))
  rw [bytes_list, seal_cut] at CU
  have HP0 : Hid (({ data := (digs (pwZ 64 x)).toArray } : ByteArray).data.toList = digs (pwZ 64 x) ∧ ({ data := (digs (pwZ 64 x)).toArray } : ByteArray).size ≤ 7) := ⟨by simp, (by show (digs (pwZ 64 x)).toArray.size ≤ 7; simpa using HL0.out)⟩
  have HP1 : Hid (({ data := (sealA x k m).toArray } : ByteArray).data.toList = sealA x k m ∧ ({ data := (sealA x k m).toArray } : ByteArray).size ≤ 15) := ⟨by simp, (by show (sealA x k m).toArray.size ≤ 15; simpa using HL1.out)⟩
  have TH := hide (fun (ps : List ByteArray) (h : ps.map (fun x => x.data.toList) = [digs (pwZ 64 x), sealA x k m, []]) => three h)
  clear e1 HQ HX HK
  generalize ({ data := (digs (pwZ 64 x) ++ 10 :: (sealA x k m ++ [10])).toArray } : ByteArray) = A1 at *
  generalize ({ data := (digs (pwZ 64 x)).toArray } : ByteArray) = P0 at *
  generalize ({ data := (sealA x k m).toArray } : ByteArray) = P1 at *
  go_wp2_with (fail)
  refine R1.out.mono ?_
  rintro e w4 ⟨rfl, hb4⟩
  have HB4 := hide hb4
  clear hb4 R1
  go_wp2_with (fail)
  refine (CU.out _).mono ?_
  rintro e w5 ⟨⟨vv, ps, rfl, ho5, hp5⟩, hb5⟩
  have HB5 := hide (below_on HB4.out hb5)
  obtain ⟨z, rfl⟩ := TH.out ps hp5
  obtain ⟨aa, cap, rfl, hcl⟩ := ho5.slice
  obtain ⟨g, rfl, c0⟩ := hcl 0 P0 rfl
  obtain ⟨g', eg, c1⟩ := hcl 1 P1 rfl
  cases eg
  clear hb5 HB4 CU TH hp5 ho5 hcl q1 q2 q3 q4 q5 q6 q7 q8
  have z0 := HP0.out.2
  have z1 := HP1.out.2
  have r1 : ¬ 9223372036854775807 < 6 + P0.size := by omega
  have r2 : ¬ 9223372036854775807 < 6 + P0.size + 1 := by omega
  have r3 : ¬ 9223372036854775807 < 6 + P0.size + 1 + TM.size := by omega
  have r4 : ¬ 9223372036854775807 < 6 + P0.size + 1 + TM.size + 1 := by omega
  have r5 : ¬ 9223372036854775807 < 6 + P0.size + 1 + TM.size + 1 + P1.size := by omega
  have r6 : ¬ 9223372036854775807 < 6 + P0.size + 1 + TM.size + 1 + P1.size + 1 := by omega
  have e2 : ({ data := #[99, 104, 101, 99, 107, 32] } ++ P0 ++ { data := #[32] } ++ TM ++ { data := #[32] } ++ P1 ++ { data := #[10] } : ByteArray).data.toList = kwCheck ++ 32 :: (digs (pwZ 64 x) ++ 32 :: (Lib.decDigits m ++ 32 :: sealA x k m)) ++ [10] := by
    simp only [app_list, HP0.out.1, HP1.out.1, HM.out]
    unfold kwCheck
    simp
  have R2 := hide (RN.out ({ data := #[99, 104, 101, 99, 107, 32] } ++ P0 ++ { data := #[32] } ++ TM ++ { data := #[32] } ++ P1 ++ { data := #[10] }) (by simp only [ByteArray.size_append]; show 6 + P0.size + 1 + TM.size + 1 + P1.size + 1 ≤ 140737488351232; omega))
  rw [e2, HC.out] at R2
  unfold ansYes at R2
  clear e2 HC HP0 HP1 HM RN
  have hL := HB5.out
  go_wp2_with (fail)
  go_region_held3 (fun W => W.cell? ⟨g, 0, none⟩ = some (.string P0) ∧ W.cell? ⟨g, 1, none⟩ = some (.string P1))
    (exact ⟨by assumption, by assumption⟩)
    (first | (go_at_call 6; refine (R2.out _ (by repeat (first | exact hL | with_reducible apply Below.drew))).mono ?_; rintro e w6 ⟨rfl, hb6⟩; have k0 : w6.cell? ⟨g, 0, none⟩ = some (.string P0) := cell_below hb6 c0; have k1 : w6.cell? ⟨g, 1, none⟩ = some (.string P1) := cell_below hb6 c1; have hL6 : Below w.heap.size w w6 := below_on (by repeat (first | exact hL | with_reducible apply Below.drew)) hb6; clear hb6))
  all_goals
    go_wp2
    go_ret
    exact ⟨rfl, by repeat (first | exact hL6 | with_reducible apply Below.drew)⟩
end Go.Proofs.YtjkcplpmhjnahaaGreatDoor.RunSeals
