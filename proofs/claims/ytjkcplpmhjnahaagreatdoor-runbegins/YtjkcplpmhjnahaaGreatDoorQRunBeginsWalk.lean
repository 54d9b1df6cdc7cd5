/-
  The walk of stairlaw3.RunBegins: it returns true, and memory that was there stays as it was.
-/
import Derived.Test.YtjkcplpmhjnahaaGreatDoorPack1
namespace Go.Proofs.YtjkcplpmhjnahaaGreatDoor.RunBegins
open Go.ChangeShapes Go.WideShapes Go.ChangeAt Go.RowKit
open Go.Proofs.YtjkcplpmhjnahaaGreatDoor.M Go.Proofs.YtjkcplpmhjnahaaGreatDoor.Run
set_option linter.unusedVariables false

def factT : ByteArray := { data := ([101, 120, 116, 101, 110, 100, 32, 51, 32, 53, 10, 101, 120, 116, 101, 110, 100, 32, 51, 32, 53, 10, 100, 105, 103, 101, 115, 116, 32, 48, 10, 102, 108, 121, 10, 114, 97, 105, 115, 101, 32, 111, 115, 32, 53, 10, 114, 97, 105, 115, 101].append [32, 111, 115, 32, 51, 10, 109, 97, 121, 32, 111, 115, 32, 52, 10, 109, 97, 121, 32, 111, 115, 32, 53, 10, 112, 117, 98, 108, 105, 99, 32, 49, 10, 112, 117, 98, 108, 105, 99, 32, 48, 10, 109, 101, 97, 115, 117, 114, 101, 32, 97, 10]).toArray }
set_option maxRecDepth 100000 in
theorem fact_ans : ansT factT.data.toList = [54, 10, 52, 55, 53, 50, 48, 10, 48, 10, 98, 97, 100, 10, 121, 101, 115, 10, 110, 111, 10, 69, 114, 114, 79, 108, 100, 10, 111, 107, 10, 54, 52, 10, 69, 114, 114, 82, 97, 110, 103, 101, 10, 51, 53, 53, 10] := by decide +kernel
theorem bytes_app {t : List UInt8} {a x : List UInt8} (h : t = a ++ x) : ({ data := a.toArray } : ByteArray).size ≤ ({ data := t.toArray } : ByteArray).size ∧ ({ data := t.toArray } : ByteArray).extract 0 ({ data := a.toArray } : ByteArray).size = { data := a.toArray } := by
  subst h
  refine ⟨by simp [ByteArray.size], ?_⟩
  have e : ∀ s u : ByteArray, s.data.toList = u.data.toList → s = u := by
    intro s u hs
    cases s
    cases u
    simpa [ByteArray.mk.injEq, Array.toList_inj] using hs
  apply e
  rw [extract_list]
  simp [ByteArray.size]
/-- The beginning ends with a line, or many are not yet there. -/
def Beg (l : List UInt8) (k : Nat) (n many : Int) : Prop := n < many ∨ k = 0 ∨ (0 < k ∧ l[k - 1]? = some 10)

set_option maxRecDepth 20000 in
set_option maxHeartbeats 4000000 in
theorem walk {Has : World → Prop} (RL : RunLaw Has) (t : ByteArray) (many : Int) (w : World) (hs : t.size ≤ 140737488351232) (hh : ∀ W, Below w.heap.size w W → Has W) :
    Calls Tryz.prog 4 #[.string t, .int .i64 many] w fun e w' => e = .returned (.bool true) ∧ Below w.heap.size w w' := by
  have RN := hide (fun (s : ByteArray) (hz : s.size ≤ 140737488351232) (W : World) (h : Below w.heap.size w W) => RL s W hz (hh W h))
  have R0 := hide (RN.out factT (by decide) w (Below.refl _ _))
  rw [fact_ans] at R0
  unfold factT at R0
  have R1 := hide (RN.out t hs)
  have HLT := hide (len_size t)
  clear RL hh
  go_enter Tryz.func4, Tryz.ntmps4
  go_wp2_with (fail)
  refine R0.out.mono ?_
  rintro e w1 ⟨rfl, hb1⟩
  have HB1 := hide hb1
  clear hb1 R0
  by_cases h3 : 3000 < t.size
  · have h3z : (3000 : Int) < t.size := by omega
    have ha : ansT t.data.toList = tooLong := if_pos (by rw [len_size]; exact h3)
    rw [ha] at R1
    unfold tooLong at R1
    clear ha h3
    go_wp2_with (fail)
    refine (R1.out _ HB1.out).mono ?_
    rintro e w2 ⟨rfl, hb2⟩
    have HB2 := hide (below_on HB1.out hb2)
    go_wp2
    go_ret
    exact ⟨rfl, HB2.out⟩
  · have h3z : ¬ (3000 : Int) < t.size := by omega
    go_wp2
    go_loopw [7, 8] (fun s7 s8 wr => ∃ k n : Nat, k ≤ t.size ∧ n ≤ k ∧ s7 = .int .i64 k ∧ s8 = .int .i64 n ∧ Hid (Beg t.data.toList k n many) ∧ Hid (Below w.heap.size w wr)) (fun s7 _ _ => t.size - (intOf s7).toNat)
    case atStart => exact ⟨0, 0, by omega, by omega, rfl, rfl, Or.inr (Or.inl rfl), HB1.out⟩
    case round =>
      obtain ⟨k, n, hk, hn, rfl, rfl, HBG, HBW⟩ := hrel
      clear HB1
      by_cases hlt : k < t.size
      · have hltz : (k : Int) < t.size := by omega
        by_cases hm : (n : Int) < many
        · have HX : Hid (t.data.toList[k]? = some t[k]) := Ref.at_some hlt
          by_cases h10 : t[k] = 10
          · have h10z : ((t[k]).toNat : Int) = 10 := by rw [h10]; rfl
            have HB2 : Hid (Beg t.data.toList (k + 1) ((n + 1 : Nat) : Int) many) := Or.inr (Or.inr ⟨by omega, by rw [Nat.add_sub_cancel, HX.out, h10]⟩)
            clear h10
            go_wp2
            go_roundw
            case rel => exact ⟨k + 1, n + 1, by omega, by omega, by go_num, by go_num, HB2.out, HBW.out⟩
            case measure => simp [intOf]; omega
          · have h10z : ¬ ((t[k]).toNat : Int) = 10 := by
              intro e
              apply h10
              apply UInt8.toNat_inj.1
              have : (10 : UInt8).toNat = 10 := rfl
              omega
            have HB2 : Hid (Beg t.data.toList (k + 1) n many) := Or.inl hm
            clear h10
            go_wp2
            go_roundw
            case rel => exact ⟨k + 1, n, by omega, by omega, by go_num, rfl, HB2.out, HBW.out⟩
            case measure => simp [intOf]; omega
        · have hx := ans_begin (t := t.data.toList) (by rw [len_size]; omega) (k := k) (by
            rcases HBG.out with h | h | h
            · exact absurd h hm
            · exact Or.inl h
            · exact Or.inr (Or.inr h))
          have c1 : (0 : Int) ≤ k := by omega
          have c2 : (k : Int) ≤ t.size := by omega
          have R2 := hide (RN.out (t.extract 0 k) (by rw [← len_size, extract_list]; simp; have := HLT.out; omega))
          rw [show (t.extract 0 k).data.toList = t.data.toList.take k by rw [extract_list]; simp] at R2
          obtain ⟨x, hx⟩ := hx
          obtain ⟨e1, e2⟩ := bytes_app hx
          generalize ({ data := (ansT t.data.toList).toArray } : ByteArray) = BB at *
          generalize ({ data := (ansT (t.data.toList.take k)).toArray } : ByteArray) = AA at *
          have e1z : (AA.size : Int) ≤ BB.size := by omega
          clear hx
          go_wp2_with (fail)
          refine (R2.out _ HBW.out).mono ?_
          rintro e w2 ⟨rfl, hb2⟩
          have HB2 := hide (below_on HBW.out hb2)
          clear hb2 R2 HBW
          go_wp2_with (fail)
          refine (R1.out _ HB2.out).mono ?_
          rintro e w3 ⟨rfl, hb3⟩
          have HB3 := hide (below_on HB2.out hb3)
          clear hb3 R1 HB2
          go_wp2
          go_ret
          exact ⟨rfl, HB3.out⟩
      · have hltz : ¬ (k : Int) < t.size := by omega
        have hx := ans_begin (t := t.data.toList) (by rw [len_size]; omega) (k := k) (Or.inr (Or.inl (by rw [len_size]; omega)))
        have c1 : (0 : Int) ≤ k := by omega
        have c2 : (k : Int) ≤ t.size := by omega
        have R2 := hide (RN.out (t.extract 0 k) (by rw [← len_size, extract_list]; simp; have := HLT.out; omega))
        rw [show (t.extract 0 k).data.toList = t.data.toList.take k by rw [extract_list]; simp] at R2
        obtain ⟨x, hx⟩ := hx
        obtain ⟨e1, e2⟩ := bytes_app hx
        generalize ({ data := (ansT t.data.toList).toArray } : ByteArray) = BB at *
        generalize ({ data := (ansT (t.data.toList.take k)).toArray } : ByteArray) = AA at *
        have e1z : (AA.size : Int) ≤ BB.size := by omega
        clear hx
        go_wp2_with (fail)
        refine (R2.out _ HBW.out).mono ?_
        rintro e w2 ⟨rfl, hb2⟩
        have HB2 := hide (below_on HBW.out hb2)
        clear hb2 R2 HBW
        go_wp2_with (fail)
        refine (R1.out _ HB2.out).mono ?_
        rintro e w3 ⟨rfl, hb3⟩
        have HB3 := hide (below_on HB2.out hb3)
        clear hb3 R1 HB2
        go_wp2
        go_ret
        exact ⟨rfl, HB3.out⟩
end Go.Proofs.YtjkcplpmhjnahaaGreatDoor.RunBegins
