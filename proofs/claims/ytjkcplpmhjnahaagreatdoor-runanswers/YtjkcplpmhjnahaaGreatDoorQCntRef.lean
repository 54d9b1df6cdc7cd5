/-
  Contracts of what package stairref1 says on names, and package stairref2 on counts (Of, May): each returns what the plain mathematics says, and memory stays as it was.
-/
import Derived.Test.YtjkcplpmhjnahaaGreatDoorPack1
import Derived.Test.YtjkcplpmhjnahaaGreatDoorQRec
namespace Go.Proofs.YtjkcplpmhjnahaaGreatDoor.CntRef
open Go.ChangeShapes Go.WideShapes Go.ChangeAt Go.RowKit
open Go.Proofs.YtjkcplpmhjnahaaGreatDoor.M
set_option linter.unusedVariables false

theorem let_take {l : List UInt8} {k : Nat} {b : UInt8} (h : l[k]? = some b) : (l.take (k + 1)).all letB = ((l.take k).all letB && letB b) := by
  rw [List.take_add_one, h]
  simp
theorem let_no {l : List UInt8} {k : Nat} {b : UInt8} (h : l[k]? = some b) (hb : letB b = false) : l.all letB = false := by
  apply Bool.eq_false_iff.2
  intro e
  have := List.all_eq_true.1 e b (List.mem_of_getElem? h)
  rw [hb] at this
  cases this
theorem at_some {s : ByteArray} {k : Nat} (h : k < s.size) : s.data.toList[k]? = some s[k] := by
  rw [List.getElem?_eq_getElem (by simpa using h)]; rfl

set_option maxHeartbeats 2000000 in
theorem letters_any (s : ByteArray) (w : World) (hs : s.size ≤ 140737488351232) :
    Calls Tryz.prog 50 #[.string s] w fun e w' => e = .returned (.bool (letS s)) ∧ w' = w := by
  go_enter Tryz.func50, Tryz.ntmps50
  go_wp2
  go_loop [3] (fun i => ∃ k : Nat, k ≤ s.size ∧ i = .int .i64 k ∧ Hid ((s.data.toList.take k).all letB = true)) (fun i => s.size - (intOf i).toNat)
  case atStart => exact ⟨0, by omega, rfl, rfl⟩
  case round =>
    obtain ⟨k, hk, rfl, HL⟩ := hrel
    by_cases hlt : k < s.size
    · have HX : Hid (s.data.toList[k]? = some s[k]) := at_some hlt
      by_cases h1 : (s[k]).toNat < 97
      · have h1z : ((s[k]).toNat : Int) < 97 := by omega
        have E := hide (show letS s = false from let_no HX.out (by unfold letB; simp; omega))
        clear h1
        go_wp2
        go_ret
        exact ⟨by rw [E.out]; rfl, rfl⟩
      · have h1z : ¬ ((s[k]).toNat : Int) < 97 := by omega
        by_cases h2 : 122 < (s[k]).toNat
        · have h2z : (122 : Int) < ((s[k]).toNat : Int) := by omega
          have E := hide (show letS s = false from let_no HX.out (by unfold letB; simp; omega))
          clear h1 h2
          go_wp2
          go_ret
          exact ⟨by rw [E.out]; rfl, rfl⟩
        · have h2z : ¬ (122 : Int) < ((s[k]).toNat : Int) := by omega
          have E := hide (show letB s[k] = true by unfold letB; simp; omega)
          clear h1 h2
          go_wp2
          go_round
          case rel => exact ⟨k + 1, by omega, by go_num, by show (s.data.toList.take (k + 1)).all letB = true; rw [let_take HX.out, HL.out, E.out]; rfl⟩
          case measure => simp [intOf]; omega
    · have E := hide (show letS s = true by
        have := HL.out
        rw [List.take_of_length_le (by rw [len_size]; omega)] at this
        exact this)
      go_wp2
      go_ret
      exact ⟨by rw [E.out]; rfl, rfl⟩
set_option maxHeartbeats 2000000 in
theorem name_any (s : ByteArray) (w : World) (hs : s.size ≤ 140737488351232) :
    Calls Tryz.prog 38 #[.string s] w fun e w' => e = .returned (.bool (nameB s)) ∧ w' = w := by
  have LT := hide (fun W => letters_any s W hs)
  have HNB := hide (show nameB s = (letS s && decide (1 ≤ s.size ∧ s.size ≤ 8)) from rfl)
  cases hl : letS s with
  | false =>
    rw [hl] at LT
    have E := hide (show nameB s = false by rw [HNB.out, hl]; rfl)
    go_enter Tryz.func38, Tryz.ntmps38
    go_wp2_with (fail)
    refine (LT.out _).mono ?_
    rintro e w' ⟨rfl, hw⟩
    rw [hw]
    clear hw
    go_wp2
    go_ret
    exact ⟨by rw [E.out]; rfl, rfl⟩
  | true =>
    rw [hl] at LT
    by_cases h1 : 1 ≤ s.size
    · have h1z : (1 : Int) ≤ s.size := by omega
      by_cases h8 : s.size ≤ 8
      · have h8z : (s.size : Int) ≤ 8 := by omega
        have E := hide (show nameB s = true by rw [HNB.out, hl, decide_eq_true ⟨h1, h8⟩]; rfl)
        clear h1 h8
        go_enter Tryz.func38, Tryz.ntmps38
        go_wp2_with (fail)
        refine (LT.out _).mono ?_
        rintro e w' ⟨rfl, hw⟩
        rw [hw]
        clear hw
        go_wp2
        go_ret
        exact ⟨by rw [E.out]; rfl, rfl⟩
      · have h8z : ¬ (s.size : Int) ≤ 8 := by omega
        have E := hide (show nameB s = false by rw [HNB.out, hl, decide_eq_false (by omega)]; rfl)
        have HDZ := hide (show decide ((s.size : Int) ≤ 8) = false from decide_eq_false h8z)
        clear h1 h8
        go_enter Tryz.func38, Tryz.ntmps38
        go_wp2_with (fail)
        refine (LT.out _).mono ?_
        rintro e w' ⟨rfl, hw⟩
        rw [hw]
        clear hw
        go_wp2
        go_ret
        exact ⟨show Ending.returned (.bool (decide ((s.size : Int) ≤ 8))) = .returned (.bool (nameB s)) by rw [E.out, HDZ.out], rfl⟩
    · have h1z : ¬ (1 : Int) ≤ s.size := by omega
      have E := hide (show nameB s = false by rw [HNB.out, hl, decide_eq_false (by omega)]; rfl)
      clear h1
      go_enter Tryz.func38, Tryz.ntmps38
      go_wp2_with (fail)
      refine (LT.out _).mono ?_
      rintro e w' ⟨rfl, hw⟩
      rw [hw]
      clear hw
      go_wp2
      go_ret
      exact ⟨by rw [E.out]; rfl, rfl⟩
/-- A record of a name and its least version; the first of a name. -/
def lstV (c : ByteArray × Int) : List Value := [.string c.1, .int .i64 c.2]
theorem lstV_len (c : ByteArray × Int) : (lstV c).length = 2 := rfl
def ofC : List (ByteArray × Int) → ByteArray → Int
  | [], _ => 0
  | c :: r, s => if c.1 = s then c.2 else ofC r s
/-- The reference's counts in memory: the first cell of a block that has others too. -/
def CIx (rs : List Value) (T : TypeId) (W : World) (B g : Nat) (v : Value) (cs : List (ByteArray × Int)) : Prop :=
  W.heap[g]? = some (.cells (v :: rs).toArray T) ∧ OwnR 2 lstV W B 86 v cs ∧ v.ownBlock ≠ some g ∧ B ≤ g ∧ cs.length ≤ 12 ∧ (∀ c ∈ cs, 0 < c.2) ∧ (∀ c ∈ cs, c.1.size ≤ 8)
/-- And in a block of their own. -/
abbrev CIs (W : World) (B g : Nat) (v : Value) (cs : List (ByteArray × Int)) : Prop := CIx [] 28 W B g v cs
theorem one_cell {w : World} {b : Nat} {x : Value} {rs : List Value} {t : TypeId} {fr : Nat × Nat} (h : w.heap[b]? = some (.cells (x :: rs).toArray t fr)) : w.cell? ⟨b, 0, none⟩ = some x := by rw [cell_of_row w b _ _ t fr h]; rfl
theorem ofC_skip {s : ByteArray} : ∀ {cs : List (ByteArray × Int)} {k : Nat}, (∀ (j : Nat) (c : ByteArray × Int), j < k → cs[j]? = some c → c.1 ≠ s) → ofC cs s = ofC (cs.drop k) s
  | [], k, _ => by simp
  | c :: r, 0, _ => rfl
  | c :: r, k + 1, h => by
    have h0 := h 0 c (by omega) rfl
    have ih := ofC_skip (s := s) (cs := r) (k := k) (fun j d hj hd => h (j + 1) d (by omega) (by simpa using hd))
    rw [ofC, if_neg h0, ih]
    rfl
theorem byte_ext {s t : ByteArray} (h : s.data.toList = t.data.toList) : s = t := by
  cases s; cases t
  congr 1
  exact Array.ext' h
theorem str_ne {s t : ByteArray} (h : ¬ s = t) : (s.toList == t.toList) = false := by
  rw [Lib.toList_data, Lib.toList_data]
  apply beq_eq_false_iff_ne.2
  exact fun e => h (byte_ext e)
set_option maxHeartbeats 2000000 in
theorem of_any {rs : List Value} {T : TypeId} (g : Nat) (v : Value) (cs : List (ByteArray × Int)) (s : ByteArray) (w : World) (B : Nat) (h : CIx rs T w B g v cs) :
    Calls Tryz.prog 39 #[.pointer (some ⟨g, 0, none⟩), .string s] w fun e w' => e = .returned (.int .i64 (ofC cs s)) ∧ w' = w := by
  obtain ⟨h1, h2, _, _, h5, _⟩ := h
  obtain ⟨a, cap, rfl, _, hr⟩ := h2.row lstV_len
  have r0 := one_cell h1
  have HR := hide hr
  clear h1 h2 hr
  go_enter Tryz.func39, Tryz.ntmps39
  go_wp2
  go_loop [5] (fun s5 => ∃ k : Nat, k ≤ cs.length ∧ s5 = .int .i64 k ∧ Hid (∀ (j : Nat) (c : ByteArray × Int), j < k → cs[j]? = some c → c.1 ≠ s)) (fun s5 => cs.length - (intOf s5).toNat)
  case atStart => exact ⟨0, by omega, rfl, (fun j c hj => by omega : ∀ (j : Nat) (c : ByteArray × Int), j < 0 → cs[j]? = some c → c.1 ≠ s)⟩
  case round =>
    obtain ⟨k, hk, rfl, HS⟩ := hrel
    have HSK := hide (ofC_skip HS.out)
    by_cases hlt : k < cs.length
    · have hlz : (k : Int) < cs.length := by omega
      obtain ⟨⟨nm, m⟩, hc⟩ : ∃ c, cs[k]? = some c := ⟨cs[k]'hlt, List.getElem?_eq_getElem hlt⟩
      obtain ⟨b, off, rfl, hcell⟩ := HR.out.at hc
      have c0 := hcell 0 (.string nm) rfl
      have c1 := hcell 1 (.int .i64 m) rfl
      have HC := hide hc
      have HD := hide (show cs.drop k = (nm, m) :: cs.drop (k + 1) by
        obtain ⟨h1, h2⟩ := List.getElem?_eq_some_iff.1 hc
        rw [List.drop_eq_getElem_cons h1, h2])
      clear hc hcell
      simp only [Nat.add_zero] at c0
      by_cases he : nm = s
      · subst he
        have E := hide (show ofC cs nm = m by rw [HSK.out, HD.out, ofC, if_pos rfl])
        go_wp2
        go_ret
        exact ⟨by rw [E.out]; rfl, rfl⟩
      · have HS2 := hide (show ∀ (j : Nat) (c : ByteArray × Int), j < k + 1 → cs[j]? = some c → c.1 ≠ s from fun j c hj hjc => by
          by_cases e : j = k
          · subst e; rw [HC.out] at hjc; cases hjc; exact he
          · exact HS.out j c (by omega) hjc)
        have hq2 := str_ne he
        go_wp2
        go_round
        case rel => exact ⟨k + 1, by omega, by go_num, HS2.out⟩
        case measure => simp [intOf]; omega
    · have hlz : ¬ (k : Int) < cs.length := by omega
      have E := hide (show ofC cs s = 0 by rw [HSK.out, List.drop_eq_nil_of_le (by omega)]; rfl)
      go_wp2
      go_ret
      exact ⟨by rw [E.out]; rfl, rfl⟩
set_option maxHeartbeats 2000000 in
theorem may_any {rs : List Value} {T : TypeId} (g : Nat) (v : Value) (cs : List (ByteArray × Int)) (s : ByteArray) (x : Int) (w : World) (B : Nat) (h : CIx rs T w B g v cs) (hs : s.size ≤ 140737488351232) :
    Calls Tryz.prog 25 #[.pointer (some ⟨g, 0, none⟩), .string s, .int .i64 x] w fun e w' => e = .returned (.int .i64 (mayE (ofC cs) s x)) ∧ w' = w := by
  have OF := hide (of_any g v cs s w B h)
  have NM := hide (name_any s w hs)
  have HM := hide (show mayE (ofC cs) s x = if nameB s = true then (if 1 ≤ x ∧ x ≤ 1000 then (if x < ofC cs s then 9 else 0) else 1) else 3 from rfl)
  clear h
  cases hn : nameB s with
  | false =>
    rw [hn] at NM HM
    rw [if_neg (by decide)] at HM
    go_enter Tryz.func25, Tryz.ntmps25
    go_wp2_with (fail)
    refine NM.out.mono ?_
    rintro e w' ⟨rfl, hw⟩
    rw [hw]
    clear hw
    go_wp2
    go_ret
    exact ⟨by rw [HM.out]; rfl, rfl⟩
  | true =>
    rw [hn] at NM HM
    rw [if_pos rfl] at HM
    by_cases h1 : x < 1
    · rw [if_neg (by omega)] at HM
      go_enter Tryz.func25, Tryz.ntmps25
      go_wp2_with (fail)
      refine NM.out.mono ?_
      rintro e w' ⟨rfl, hw⟩
      rw [hw]
      clear hw
      go_wp2
      go_ret
      exact ⟨by rw [HM.out]; rfl, rfl⟩
    · by_cases h2 : 1000 < x
      · rw [if_neg (by omega)] at HM
        go_enter Tryz.func25, Tryz.ntmps25
        go_wp2_with (fail)
        refine NM.out.mono ?_
        rintro e w' ⟨rfl, hw⟩
        rw [hw]
        clear hw
        go_wp2
        go_ret
        exact ⟨by rw [HM.out]; rfl, rfl⟩
      · rw [if_pos (by omega)] at HM
        generalize ofC cs s = o at *
        by_cases h3 : x < o
        · rw [if_pos h3] at HM
          go_enter Tryz.func25, Tryz.ntmps25
          go_wp2_with (fail)
          refine NM.out.mono ?_
          rintro e w' ⟨rfl, hw⟩
          rw [hw]
          clear hw
          go_wp2_with (fail)
          refine OF.out.mono ?_
          rintro e w' ⟨rfl, hw⟩
          rw [hw]
          clear hw
          go_wp2
          go_ret
          exact ⟨by rw [HM.out]; rfl, rfl⟩
        · rw [if_neg h3] at HM
          go_enter Tryz.func25, Tryz.ntmps25
          go_wp2_with (fail)
          refine NM.out.mono ?_
          rintro e w' ⟨rfl, hw⟩
          rw [hw]
          clear hw
          go_wp2_with (fail)
          refine OF.out.mono ?_
          rintro e w' ⟨rfl, hw⟩
          rw [hw]
          clear hw
          go_wp2
          go_ret
          exact ⟨by rw [HM.out]; rfl, rfl⟩
end Go.Proofs.YtjkcplpmhjnahaaGreatDoor.CntRef
