/-
  Contracts of one line at the reference's desk (stairref2's (*Desk).Line): check.
-/
import Derived.Test.YtjkcplpmhjnahaaGreatDoorQDeskAux
import Derived.Deep.DeepCutAuto
namespace Go.Proofs.YtjkcplpmhjnahaaGreatDoor.Desk
open Go.ChangeShapes Go.WideShapes Go.ChangeAt Go.RowKit
open Go.Proofs.YtjkcplpmhjnahaaGreatDoor.M
set_option linter.unusedVariables false
set_option linter.unusedSimpArgs false

set_option maxRecDepth 200000 in
set_option maxHeartbeats 8000000 in
theorem line_check (g : Nat) (v : Value) (cs : List (ByteArray × Int)) (d : Dk) (s : ByteArray) (w : World) (B : Nat) (h : DIs w B g v cs d) (hs : s.size ≤ 3000) (hB : B ≤ w.heap.size) (r : List (List UInt8)) (hc : cutG 32 [] s.data.toList = kwCheck :: r) :
    Calls Tryz.prog 8 #[.pointer (some ⟨g, 0, none⟩), .string s] w (Post w B g v (wordsA d (kwCheck :: r))) := by
  have hW : wantW kwCheck = some (false, 4) := by decide
  have HD := hide h
  have HBB := hide hB
  have CU := hide (Ref.cutAt_any 32 32 (by decide) s w (by omega))
  have HC := hide hc
  clear h hc hB
  go_enter Tryz.func8, Tryz.ntmps8
  go_wp2_with (fail)
  refine CU.out.mono ?_
  rintro e w1 ⟨⟨vw, ps, rfl, ho, hps⟩, hb1⟩
  rw [HC.out] at hps
  obtain ⟨p0, pr, rfl, hp0, hpr⟩ := words_split hps
  obtain ⟨gw, cw, rfl, hw1, hw2, _⟩ := own_row1 txtV_len (own_txt ho) (by simp)
  have HW := hide (words_keep (own_txt ho))
  have HB1 := hide hb1
  have HGW := hide (show w.heap.size ≤ gw from ho.block gw rfl)
  have HPR := hide hpr
  have c0 := HW.out _ (Below.refl _ _) 0 p0 rfl
  have hlm : pr.length + 1 ≤ 9223372036854775807 := by
    unfold maxLen at hw2
    simp at hw1
    omega
  have qExtend : (p0.toList == [101, 120, 116, 101, 110, 100]) = false := lst_no (by rw [hp0]; decide)
  have qDigest : (p0.toList == [100, 105, 103, 101, 115, 116]) = false := lst_no (by rw [hp0]; decide)
  have qPublic : (p0.toList == [112, 117, 98, 108, 105, 99]) = false := lst_no (by rw [hp0]; decide)
  have qMeasure : (p0.toList == [109, 101, 97, 115, 117, 114, 101]) = false := lst_no (by rw [hp0]; decide)
  have qRaise : (p0.toList == [114, 97, 105, 115, 101]) = false := lst_no (by rw [hp0]; decide)
  have qMay : (p0.toList == [109, 97, 121]) = false := lst_no (by rw [hp0]; decide)
  have qSign : (p0.toList == [115, 105, 103, 110]) = false := lst_no (by rw [hp0]; decide)
  have qCheck : (p0.toList == [99, 104, 101, 99, 107]) = true := lst_yes (by rw [hp0]; rfl)
  have HSZ : Hid (∀ x ∈ p0 :: pr, x.size ≤ 3000) := word_size hps hs HC.out
  clear hps hpr ho hb1 hw1 hw2 CU HC
  have hlen : (p0 :: pr).length = pr.length + 1 := rfl
  rw [hlen]
  clear hlen
  clear hp0
  by_cases hl : pr.length = 4
  · obtain ⟨p1, p2, p3, p4, rfl⟩ : ∃ p1 p2 p3 p4, pr = [p1, p2, p3, p4] := by
      match pr, hl with
      | [p1, p2, p3, p4], _ => exact ⟨p1, p2, p3, p4, rfl⟩
    clear hl hlm
    simp only [List.map_cons, List.map_nil] at HPR
    have HA : Hid (wordsA d (kwCheck :: r) = match numsL [p1.data.toList, p2.data.toList, p3.data.toList, p4.data.toList] with
      | none => (ansBad, d)
      | some n => doL d kwCheck [] n) := by rw [← HPR.out]; exact words_plain hW rfl
    clear hW HPR
    have hl2 : ((([p1, p2, p3, p4] : List ByteArray).length : Nat) : Int) = 4 := rfl
    go_wp2
    go_loopw [9, 10, 11, 12] (fun s9 s10 _ _ wr => ∃ (i : Nat) (ns : List Nat), 1 ≤ i ∧ i ≤ 5 ∧ s10 = .int .i64 i ∧ Hid (Own wr w1.heap.size 3 s9 (ints ns)) ∧ Hid (Below w1.heap.size w1 wr) ∧ Hid (numsL ([p1.data.toList, p2.data.toList, p3.data.toList, p4.data.toList].take (i - 1)) = some ns)) (fun _ s10 _ _ _ => 5 - (intOf s10).toNat)
    case atStart => exact ⟨1, [], by omega, by omega, rfl, Own.nil _ _ _, Below.refl _ _, rfl⟩
    case round =>
      obtain ⟨i, ns, hi1, hi2, rfl, HO, HB, HN⟩ := hrel
      by_cases hlt : i < 5
      · have hltz : (i : Int) < 5 := by omega
        obtain ⟨px, hpx⟩ : ∃ x, (p0 :: [p1, p2, p3, p4])[i]? = some x := ⟨(p0 :: [p1, p2, p3, p4])[i]'(by show i < 5; exact hlt), List.getElem?_eq_getElem _⟩
        have hpy : [p1.data.toList, p2.data.toList, p3.data.toList, p4.data.toList][i - 1]? = some px.data.toList := by
          match i, hi1, hlt, hpx with
          | 1, _, _, hp => cases hp; rfl
          | 2, _, _, hp => cases hp; rfl
          | 3, _, _, hp => cases hp; rfl
          | 4, _, _, hp => cases hp; rfl
        have cx := HW.out _ HB.out i px hpx
        have hsx : px.size ≤ 140737488351232 := by have := HSZ.out px (List.mem_of_getElem? hpx); omega
        have NU := hide (fun W => Ref.number7_any px W hsx)
        cases hn : numP px.data.toList with
        | none =>
          have HA2 : Hid (wordsA d (kwCheck :: r) = (ansBad, d)) := by rw [HA.out, nums_stop hpy hn]; exact rfl
          rw [(numW_none hn).1, hn] at NU
          simp only [Option.isSome_none] at NU
          clear hpx hpy hn HA
          go_wp2_with (fail)
          refine (NU.out _).mono ?_
          rintro e wz ⟨rfl, hw⟩
          rw [hw]
          clear hw NU
          go_wp2
          go_ret
          exact post_same HD.out (below_on HB1.out HB.out) HA2.out rfl
        | some n =>
          have HN2 := hide (nums_step HN.out hpy hn)
          have HL2 := hide (numsL_len HN.out)
          rw [(numW_some hn).1, hn] at NU
          simp only [Option.isSome_some] at NU
          have HRW := hide (row_new wr (n : Int) 3)
          have hsz := HB.out.size
          have hnl : ns.length ≤ 4 := by rw [HL2.out, List.length_take]; simp; omega
          have hnn : (ints ns).length ≤ 4 := by unfold ints; rw [List.length_map]; exact hnl
          clear hpx hpy hn HA
          go_wp2_with (fail)
          refine (NU.out _).mono ?_
          rintro e wz ⟨rfl, hw⟩
          rw [hw]
          clear hw NU
          go_wp2_with (at_builtin; refine wpList_app rfl _ _ 51 rfl w1.heap.size 3 info_int Tryz.underlying51 _ (ints ns) rfl (HO.out.alloc _) (some ⟨wr.heap.size, 0, none⟩) 1 1 [(n : Int)] rfl rfl (by simp) HRW.out (by simp; omega) (by simp; omega) ?_; intro v2 w2 ho2 hg2)
          have HO2 : Hid (Own w2 w1.heap.size 3 v2 (ints (ns ++ [n]))) := by rw [ints_snoc]; exact ho2
          have HB2 := hide ((HB.out.alloc hsz (.cells #[.int .i64 (n : Int)] 3)).grown hg2 (by simp; omega) (fun k hk => HO.out.block k hk))
          go_roundw
          case rel => exact ⟨i + 1, ns ++ [n], by omega, by omega, by go_num, HO2.out, HB2.out, by rw [show i + 1 - 1 = i - 1 + 1 by omega]; exact HN2.out⟩
          case measure => simp [intOf]; omega
      · have hie : i = 5 := by omega
        subst hie
        have hltz : ¬ ((5 : Nat) : Int) < 5 := by omega
        have hnl := numsL_len HN.out
        have hnb := numsL_lt HN.out
        have HNS : Hid (numsL [p1.data.toList, p2.data.toList, p3.data.toList, p4.data.toList] = some ns) := HN.out
        obtain ⟨n0, n1, n2, n3, rfl⟩ : ∃ n0 n1 n2 n3, ns = [n0, n1, n2, n3] := by
          match ns, hnl with
          | [n0, n1, n2, n3], _ => exact ⟨n0, n1, n2, n3, rfl⟩
        obtain ⟨a9, cap9, hv9, _, hrow⟩ := HO.out.row
        rw [show (ints [n0, n1, n2, n3]).length = 4 from rfl] at hv9
        subst hv9
        have cz := HW.out _ HB.out 0 p0 rfl
        have HR9 := hide hrow
        have HA3 : Hid (wordsA d (kwCheck :: r) = doL d kwCheck [] [n0, n1, n2, n3]) := by rw [HA.out, HNS.out]; exact rfl
        clear HA HN HNS hnl hlt hi1 hi2 hrow
        have hn0 : n0 < 10000000 := hnb n0 (by simp)
        have hn1 : n1 < 10000000 := hnb n1 (by simp)
        have hn2 : n2 < 10000000 := hnb n2 (by simp)
        have hn3 : n3 < 10000000 := hnb n3 (by simp)
        clear hnb
        obtain ⟨b9, o9, rfl, d0⟩ := row_cell (b := 0) HR9.out (i := 0) (y := (n0 : Int)) rfl
        obtain ⟨b9', o9', e9, d1⟩ := row_cell (b := 0) HR9.out (i := 1) (y := (n1 : Int)) rfl
        cases e9
        obtain ⟨b9', o9', e9, d2⟩ := row_cell (b := 0) HR9.out (i := 2) (y := (n2 : Int)) rfl
        cases e9
        obtain ⟨b9', o9', e9, d3⟩ := row_cell (b := 0) HR9.out (i := 3) (y := (n3 : Int)) rfl
        cases e9
        simp only [Nat.add_zero] at d0
        have HNC : Hid (∀ W, KB wr W → (W.cell? ⟨b9, o9, none⟩ = some (.int .i64 (n0 : Int)) ∧ W.cell? ⟨b9, o9 + 1, none⟩ = some (.int .i64 (n1 : Int))) ∧ (W.cell? ⟨b9, o9 + 2, none⟩ = some (.int .i64 (n2 : Int)) ∧ W.cell? ⟨b9, o9 + 3, none⟩ = some (.int .i64 (n3 : Int)))) := fun W h =>
          ⟨⟨kb_cell h d0, kb_cell h d1⟩, ⟨kb_cell h d2, kb_cell h d3⟩⟩
        have RG := hide (fun W => Ref.right_any (n0 : Int) (n1 : Int) (n2 : Int) (n3 : Int) W)
        unfold sealC at RG
        have HDO : Hid (doL d kwCheck [] [n0, n1, n2, n3] = if rigC (n0 : Int) (n1 : Int) (n2 : Int) (n3 : Int) = 1 then (errN 1, d) else if rigC (n0 : Int) (n1 : Int) (n2 : Int) (n3 : Int) = 0 then (ansYes, d) else (ansNo, d)) := rfl
        have hrc : rigC (n0 : Int) (n1 : Int) (n2 : Int) (n3 : Int) = 0 ∨ rigC (n0 : Int) (n1 : Int) (n2 : Int) (n3 : Int) = 1 ∨ rigC (n0 : Int) (n1 : Int) (n2 : Int) (n3 : Int) = 8 := by
          unfold rigC
          split
          · split
            · exact Or.inl rfl
            · exact Or.inr (Or.inr rfl)
          · exact Or.inr (Or.inl rfl)
        generalize rigC (n0 : Int) (n1 : Int) (n2 : Int) (n3 : Int) = rc at *
        have hK : KB wr wr := Below.refl _ _
        clear hn0 hn1 hn2 hn3
        go_wp2_with (fail)
        go_cut [20] (fun s20 w' => s20 = .int .i64 rc ∧ Hid (KB wr w'))
        case first =>
          go_region_held3 (fun W => (W.cell? ⟨b9, o9, none⟩ = some (.int .i64 (n0 : Int)) ∧ W.cell? ⟨b9, o9 + 1, none⟩ = some (.int .i64 (n1 : Int))) ∧ (W.cell? ⟨b9, o9 + 2, none⟩ = some (.int .i64 (n2 : Int)) ∧ W.cell? ⟨b9, o9 + 3, none⟩ = some (.int .i64 (n3 : Int))) ∧ KB wr W)
            (exact two_S (by with_reducible repeat (first | assumption | apply kb_drew)) (fun h => HNC.out _ h))
            (first | (go_at_call 28; refine (RG.out _).mono ?_; rintro e w5 ⟨rfl, hb5⟩; have hK5 : KB wr w5 := kb_below (by with_reducible repeat (first | assumption | apply kb_drew)) hb5; clear hb5; obtain ⟨⟨f0, f1⟩, ⟨f2, f3⟩⟩ := HNC.out _ hK5))
          all_goals
            go_wp2
            go_meet
            exact ⟨rfl, hide (by with_reducible repeat (first | assumption | apply kb_drew))⟩
        case rest =>
        obtain ⟨rfl, HKC⟩ := hcut
        have HBC := hide (below_on (below_on HB1.out HB.out) HKC.out)
        clear HKC HNC RG hK
        rcases hrc with rfl | rfl | rfl
        · have YE := hide (show ∀ W, Calls Tryz.prog 23 #[.bool true, .int .i64 0] W fun e w' => e = .returned (.string { data := ansYes.toArray }) ∧ Below W.heap.size W w' from fun W => RunRef.yes_any true 0 (by omega) W)
          have HA4 : Hid (wordsA d (kwCheck :: r) = (ansYes, d)) := by rw [HA3.out, HDO.out, if_neg (by decide), if_pos rfl]; exact rfl
          go_wp2_with (fail)
          refine (YE.out _).mono ?_
          rintro e w5 ⟨rfl, hb5⟩
          have HB5 := hide (below_on HBC.out hb5)
          clear hb5 YE
          go_wp2
          go_ret
          exact post_same HD.out HB5.out HA4.out rfl
        · have NA := hide (show ∀ W, Calls Tryz.prog 17 #[.int .i64 1] W fun e w' => e = .returned (.string { data := (errN 1).toArray }) ∧ Below W.heap.size W w' from fun W => RunRef.name_any 1 (by omega) W)
          have HA4 : Hid (wordsA d (kwCheck :: r) = (errN 1, d)) := by rw [HA3.out, HDO.out, if_pos rfl]; exact rfl
          go_wp2_with (fail)
          refine (NA.out _).mono ?_
          rintro e w5 ⟨rfl, hb5⟩
          have HB5 := hide (below_on HBC.out hb5)
          clear hb5 NA
          go_wp2
          go_ret
          exact post_same HD.out HB5.out HA4.out rfl
        · have YE := hide (show ∀ W, Calls Tryz.prog 23 #[.bool false, .int .i64 0] W fun e w' => e = .returned (.string { data := ansNo.toArray }) ∧ Below W.heap.size W w' from fun W => RunRef.yes_any false 0 (by omega) W)
          have HA4 : Hid (wordsA d (kwCheck :: r) = (ansNo, d)) := by rw [HA3.out, HDO.out, if_neg (by decide), if_neg (by decide)]; exact rfl
          go_wp2_with (fail)
          refine (YE.out _).mono ?_
          rintro e w5 ⟨rfl, hb5⟩
          have HB5 := hide (below_on HBC.out hb5)
          clear hb5 YE
          go_wp2
          go_ret
          exact post_same HD.out HB5.out HA4.out rfl
  · have HA : Hid (wordsA d (kwCheck :: r) = (ansBad, d)) := words_count hW (by rw [← HPR.out]; simpa using hl)
    have hlz : ¬ (pr.length : Int) = 4 := by omega
    have hlb : ((pr.length : Int) != 4) = true := bne_iff_ne.2 hlz
    clear hl hW
    go_wp2
    go_ret
    exact post_same HD.out HB1.out HA.out rfl
end Go.Proofs.YtjkcplpmhjnahaaGreatDoor.Desk
