/-
  Contracts of one line at the reference's desk (stairref2's (*Desk).Line): no word of its own; measure; public.
-/
import Derived.Test.YtjkcplpmhjnahaaGreatDoorQDeskAux
import Derived.Deep.DeepCutAuto
namespace Go.Proofs.YtjkcplpmhjnahaaGreatDoor.Desk
open Go.ChangeShapes Go.WideShapes Go.ChangeAt Go.RowKit
open Go.Proofs.YtjkcplpmhjnahaaGreatDoor.M
set_option linter.unusedVariables false
set_option linter.unusedSimpArgs false

set_option maxRecDepth 20000 in
set_option maxHeartbeats 4000000 in
theorem line_other (g : Nat) (v : Value) (cs : List (ByteArray × Int)) (d : Dk) (s : ByteArray) (w : World) (B : Nat) (h : DIs w B g v cs d) (hs : s.size ≤ 3000) (hB : B ≤ w.heap.size) (k : List UInt8) (r : List (List UInt8)) (hc : cutG 32 [] s.data.toList = k :: r)
    (hExtend : ¬ k = kwExtend) (hDigest : ¬ k = kwDigest) (hPublic : ¬ k = kwPublic) (hMeasure : ¬ k = kwMeasure) (hRaise : ¬ k = kwRaise) (hMay : ¬ k = kwMay) (hSign : ¬ k = kwSign) (hCheck : ¬ k = kwCheck) :
    Calls Tryz.prog 8 #[.pointer (some ⟨g, 0, none⟩), .string s] w (Post w B g v (wordsA d (k :: r))) := by
  have hW : wantW k = none := by
    unfold wantW
    rw [if_neg hExtend, if_neg hDigest, if_neg hPublic, if_neg hMeasure, if_neg hRaise, if_neg hMay, if_neg hSign, if_neg hCheck]
  have HD := hide h
  have HBB := hide hB
  have CU := hide (Ref.cutAt_any 32 32 (by decide) s w (by omega))
  have HC := hide hc
  clear h hc hB
  go_enter Tryz.func8, Tryz.ntmps8
  go_wp2_with (fail)
  refine CU.out.mono ?_
  rintro e w1 ⟨⟨vw, ps, rfl, ho, hps⟩, hb1⟩
  rw [HC.out] at hps
  obtain ⟨p0, pr, rfl, hp0, hpr⟩ := words_split hps
  obtain ⟨gw, cw, rfl, hw1, hw2, _⟩ := own_row1 txtV_len (own_txt ho) (by simp)
  have HW := hide (words_keep (own_txt ho))
  have HB1 := hide hb1
  have HGW := hide (show w.heap.size ≤ gw from ho.block gw rfl)
  have HPR := hide hpr
  have c0 := HW.out _ (Below.refl _ _) 0 p0 rfl
  have hlm : pr.length + 1 ≤ 9223372036854775807 := by
    unfold maxLen at hw2
    simp at hw1
    omega
  have qExtend : (p0.toList == [101, 120, 116, 101, 110, 100]) = false := lst_no (by rw [hp0]; exact hExtend)
  have qDigest : (p0.toList == [100, 105, 103, 101, 115, 116]) = false := lst_no (by rw [hp0]; exact hDigest)
  have qPublic : (p0.toList == [112, 117, 98, 108, 105, 99]) = false := lst_no (by rw [hp0]; exact hPublic)
  have qMeasure : (p0.toList == [109, 101, 97, 115, 117, 114, 101]) = false := lst_no (by rw [hp0]; exact hMeasure)
  have qRaise : (p0.toList == [114, 97, 105, 115, 101]) = false := lst_no (by rw [hp0]; exact hRaise)
  have qMay : (p0.toList == [109, 97, 121]) = false := lst_no (by rw [hp0]; exact hMay)
  have qSign : (p0.toList == [115, 105, 103, 110]) = false := lst_no (by rw [hp0]; exact hSign)
  have qCheck : (p0.toList == [99, 104, 101, 99, 107]) = false := lst_no (by rw [hp0]; exact hCheck)
  clear hps hpr ho hb1 hw1 hw2 CU HC
  have hlen : (p0 :: pr).length = pr.length + 1 := rfl
  rw [hlen]
  clear hlen
  have HA : Hid (wordsA d (k :: r) = (ansBad, d)) := words_none hW
  have hlz : ¬ (pr.length : Int) = -1 := by omega
  have hlb : ((pr.length : Int) != -1) = true := bne_iff_ne.2 hlz
  clear hW hp0
  go_wp2
  go_ret
  exact post_same HD.out HB1.out HA.out rfl

set_option maxRecDepth 200000 in
set_option maxHeartbeats 8000000 in
theorem line_measure (g : Nat) (v : Value) (cs : List (ByteArray × Int)) (d : Dk) (s : ByteArray) (w : World) (B : Nat) (h : DIs w B g v cs d) (hs : s.size ≤ 3000) (hB : B ≤ w.heap.size) (r : List (List UInt8)) (hc : cutG 32 [] s.data.toList = kwMeasure :: r) :
    Calls Tryz.prog 8 #[.pointer (some ⟨g, 0, none⟩), .string s] w (Post w B g v (wordsA d (kwMeasure :: r))) := by
  have hW : wantW kwMeasure = some (true, 0) := by decide
  have HD := hide h
  have HBB := hide hB
  have CU := hide (Ref.cutAt_any 32 32 (by decide) s w (by omega))
  have HC := hide hc
  clear h hc hB
  go_enter Tryz.func8, Tryz.ntmps8
  go_wp2_with (fail)
  refine CU.out.mono ?_
  rintro e w1 ⟨⟨vw, ps, rfl, ho, hps⟩, hb1⟩
  rw [HC.out] at hps
  obtain ⟨p0, pr, rfl, hp0, hpr⟩ := words_split hps
  obtain ⟨gw, cw, rfl, hw1, hw2, _⟩ := own_row1 txtV_len (own_txt ho) (by simp)
  have HW := hide (words_keep (own_txt ho))
  have HB1 := hide hb1
  have HGW := hide (show w.heap.size ≤ gw from ho.block gw rfl)
  have HPR := hide hpr
  have c0 := HW.out _ (Below.refl _ _) 0 p0 rfl
  have hlm : pr.length + 1 ≤ 9223372036854775807 := by
    unfold maxLen at hw2
    simp at hw1
    omega
  have qExtend : (p0.toList == [101, 120, 116, 101, 110, 100]) = false := lst_no (by rw [hp0]; decide)
  have qDigest : (p0.toList == [100, 105, 103, 101, 115, 116]) = false := lst_no (by rw [hp0]; decide)
  have qPublic : (p0.toList == [112, 117, 98, 108, 105, 99]) = false := lst_no (by rw [hp0]; decide)
  have qMeasure : (p0.toList == [109, 101, 97, 115, 117, 114, 101]) = true := lst_yes (by rw [hp0]; rfl)
  have qRaise : (p0.toList == [114, 97, 105, 115, 101]) = false := lst_no (by rw [hp0]; decide)
  have qMay : (p0.toList == [109, 97, 121]) = false := lst_no (by rw [hp0]; decide)
  have qSign : (p0.toList == [115, 105, 103, 110]) = false := lst_no (by rw [hp0]; decide)
  have qCheck : (p0.toList == [99, 104, 101, 99, 107]) = false := lst_no (by rw [hp0]; decide)
  have HSZ : Hid (∀ x ∈ p0 :: pr, x.size ≤ 3000) := word_size hps hs HC.out
  clear hps hpr ho hb1 hw1 hw2 CU HC
  have hlen : (p0 :: pr).length = pr.length + 1 := rfl
  rw [hlen]
  clear hlen
  clear hp0
  by_cases hl : pr.length = 1
  · obtain ⟨p1, rfl⟩ : ∃ p1, pr = [p1] := by
      match pr, hl with
      | [p1], _ => exact ⟨p1, rfl⟩
    clear hl hlm
    simp only [List.map_cons, List.map_nil] at HPR
    have hz1 : p1.size ≤ 3000 ∨ True := Or.inr trivial
    have c1 := HW.out _ (Below.refl _ _) 1 p1 rfl
    by_cases hx : p1.size = 0
    · have e1 : p1.data.toList = [] := List.eq_nil_of_length_eq_zero (by simpa using hx)
      have h1 := Image.empty_is hx
      have h2 : (p1.toList == ({ data := #[] } : ByteArray).toList) = true := lit_yes e1
      have HA : Hid (wordsA d (kwMeasure :: r) = (ansBad, d)) := by rw [← HPR.out, e1]; exact words_empty hW rfl
      clear hx e1
      go_wp2
      go_ret
      exact post_same HD.out HB1.out HA.out rfl
    · have e1 : ¬ p1.data.toList = [] := fun e => hx (by have := congrArg List.length e; simpa using this)
      have h1 := Image.empty_not hx
      have h2 : (p1.toList == ({ data := #[] } : ByteArray).toList) = false := lit_no e1
      have HA : Hid (wordsA d (kwMeasure :: r) = match numsL [] with
        | none => (ansBad, d)
        | some n => doL d kwMeasure p1.data.toList n) := by rw [← HPR.out]; exact words_named hW rfl e1
      clear hx e1 hz1
      clear hW HPR
      have hl2 : ((([p1] : List ByteArray).length : Nat) : Int) = 1 := rfl
      go_wp2
      go_loopw [9, 10, 11, 12] (fun s9 s10 _ _ wr => ∃ (i : Nat) (ns : List Nat), 2 ≤ i ∧ i ≤ 2 ∧ s10 = .int .i64 i ∧ Hid (Own wr w1.heap.size 3 s9 (ints ns)) ∧ Hid (Below w1.heap.size w1 wr) ∧ Hid (numsL ([].take (i - 2)) = some ns)) (fun _ s10 _ _ _ => 2 - (intOf s10).toNat)
      case atStart => exact ⟨2, [], by omega, by omega, rfl, Own.nil _ _ _, Below.refl _ _, rfl⟩
      case round =>
        obtain ⟨i, ns, hi1, hi2, rfl, HO, HB, HN⟩ := hrel
        by_cases hlt : i < 2
        · exact absurd hlt (by omega)
        · have hie : i = 2 := by omega
          subst hie
          have hltz : ¬ ((2 : Nat) : Int) < 2 := by omega
          have hnl := numsL_len HN.out
          have hnb := numsL_lt HN.out
          have HNS : Hid (numsL [] = some ns) := HN.out
          obtain rfl : ns = [] := List.eq_nil_of_length_eq_zero hnl
          obtain ⟨a9, cap9, hv9, _, hrow⟩ := HO.out.row
          rw [show (ints []).length = 0 from rfl] at hv9
          subst hv9
          have cz := HW.out _ HB.out 0 p0 rfl
          have HR9 := hide hrow
          have HA3 : Hid (wordsA d (kwMeasure :: r) = doL d kwMeasure p1.data.toList []) := by rw [HA.out, HNS.out]; exact rfl
          clear HA HN HNS hnl hlt hi1 hi2 hrow
          clear hnb
          have cw := HW.out _ HB.out 1 p1 rfl
          have HZ1 := hide (HSZ.out p1 (by simp))
          by_cases h24 : p1.size ≤ 24
          · have h24z : ¬ (24 : Int) < p1.size := by omega
            have TX := hide (fun W => Ref.text_ok p1 W h24)
            have hof := ofFrom_range 1 p1.data.toList (by omega) (by omega)
            have HA4 : Hid (wordsA d (kwMeasure :: r) = (digs (ofFrom 1 p1.data.toList), d)) := by
              rw [HA3.out]
              show (if 24 < p1.data.toList.length then (errN 4, d) else (digs (ofFrom 1 p1.data.toList), d)) = _
              rw [if_neg (by simpa using h24)]
            generalize ofFrom 1 p1.data.toList = z at *
            obtain ⟨z, rfl⟩ : ∃ k : Nat, z = k := ⟨z.toNat, by omega⟩
            have DG := hide (fun W => Ref.digits_any z z W (Nat.le_refl _) (by omega))
            clear h24 hof
            go_wp2_with (fail)
            refine (TX.out _).mono ?_
            rintro e wz ⟨rfl, hw⟩
            rw [hw]
            clear hw TX
            go_wp2_with (fail)
            refine (DG.out _).mono ?_
            rintro e wz ⟨rfl, hw⟩
            rw [hw]
            clear hw DG
            go_wp2
            go_ret
            exact post_same HD.out (below_on HB1.out HB.out) HA4.out rfl
          · have h24z : (24 : Int) < p1.size := by omega
            have NA := hide (show ∀ W, Calls Tryz.prog 17 #[.int .i64 4] W fun e w' => e = .returned (.string { data := (errN 4).toArray }) ∧ Below W.heap.size W w' from fun W => RunRef.name_any 4 (by omega) W)
            have HA4 : Hid (wordsA d (kwMeasure :: r) = (errN 4, d)) := by
              rw [HA3.out]
              show (if 24 < p1.data.toList.length then (errN 4, d) else (digs (ofFrom 1 p1.data.toList), d)) = _
              rw [if_pos (by simpa using h24)]
            go_wp2_with (fail)
            refine (NA.out _).mono ?_
            rintro e w5 ⟨rfl, hb5⟩
            have HB5 := hide (below_on (below_on HB1.out HB.out) hb5)
            clear hb5 NA
            go_wp2
            go_ret
            exact post_same HD.out HB5.out HA4.out rfl
  · have HA : Hid (wordsA d (kwMeasure :: r) = (ansBad, d)) := words_count hW (by rw [← HPR.out]; simpa using hl)
    have hlz : ¬ (pr.length : Int) = 1 := by omega
    have hlb : ((pr.length : Int) != 1) = true := bne_iff_ne.2 hlz
    clear hl hW
    go_wp2
    go_ret
    exact post_same HD.out HB1.out HA.out rfl

set_option maxRecDepth 200000 in
set_option maxHeartbeats 8000000 in
theorem line_public (g : Nat) (v : Value) (cs : List (ByteArray × Int)) (d : Dk) (s : ByteArray) (w : World) (B : Nat) (h : DIs w B g v cs d) (hs : s.size ≤ 3000) (hB : B ≤ w.heap.size) (r : List (List UInt8)) (hc : cutG 32 [] s.data.toList = kwPublic :: r) :
    Calls Tryz.prog 8 #[.pointer (some ⟨g, 0, none⟩), .string s] w (Post w B g v (wordsA d (kwPublic :: r))) := by
  have hW : wantW kwPublic = some (false, 1) := by decide
  have HD := hide h
  have HBB := hide hB
  have CU := hide (Ref.cutAt_any 32 32 (by decide) s w (by omega))
  have HC := hide hc
  clear h hc hB
  go_enter Tryz.func8, Tryz.ntmps8
  go_wp2_with (fail)
  refine CU.out.mono ?_
  rintro e w1 ⟨⟨vw, ps, rfl, ho, hps⟩, hb1⟩
  rw [HC.out] at hps
  obtain ⟨p0, pr, rfl, hp0, hpr⟩ := words_split hps
  obtain ⟨gw, cw, rfl, hw1, hw2, _⟩ := own_row1 txtV_len (own_txt ho) (by simp)
  have HW := hide (words_keep (own_txt ho))
  have HB1 := hide hb1
  have HGW := hide (show w.heap.size ≤ gw from ho.block gw rfl)
  have HPR := hide hpr
  have c0 := HW.out _ (Below.refl _ _) 0 p0 rfl
  have hlm : pr.length + 1 ≤ 9223372036854775807 := by
    unfold maxLen at hw2
    simp at hw1
    omega
  have qExtend : (p0.toList == [101, 120, 116, 101, 110, 100]) = false := lst_no (by rw [hp0]; decide)
  have qDigest : (p0.toList == [100, 105, 103, 101, 115, 116]) = false := lst_no (by rw [hp0]; decide)
  have qPublic : (p0.toList == [112, 117, 98, 108, 105, 99]) = true := lst_yes (by rw [hp0]; rfl)
  have qMeasure : (p0.toList == [109, 101, 97, 115, 117, 114, 101]) = false := lst_no (by rw [hp0]; decide)
  have qRaise : (p0.toList == [114, 97, 105, 115, 101]) = false := lst_no (by rw [hp0]; decide)
  have qMay : (p0.toList == [109, 97, 121]) = false := lst_no (by rw [hp0]; decide)
  have qSign : (p0.toList == [115, 105, 103, 110]) = false := lst_no (by rw [hp0]; decide)
  have qCheck : (p0.toList == [99, 104, 101, 99, 107]) = false := lst_no (by rw [hp0]; decide)
  have HSZ : Hid (∀ x ∈ p0 :: pr, x.size ≤ 3000) := word_size hps hs HC.out
  clear hps hpr ho hb1 hw1 hw2 CU HC
  have hlen : (p0 :: pr).length = pr.length + 1 := rfl
  rw [hlen]
  clear hlen
  clear hp0
  by_cases hl : pr.length = 1
  · obtain ⟨p1, rfl⟩ : ∃ p1, pr = [p1] := by
      match pr, hl with
      | [p1], _ => exact ⟨p1, rfl⟩
    clear hl hlm
    simp only [List.map_cons, List.map_nil] at HPR
    have HA : Hid (wordsA d (kwPublic :: r) = match numsL [p1.data.toList] with
      | none => (ansBad, d)
      | some n => doL d kwPublic [] n) := by rw [← HPR.out]; exact words_plain hW rfl
    clear hW HPR
    have hl2 : ((([p1] : List ByteArray).length : Nat) : Int) = 1 := rfl
    go_wp2
    go_loopw [9, 10, 11, 12] (fun s9 s10 _ _ wr => ∃ (i : Nat) (ns : List Nat), 1 ≤ i ∧ i ≤ 2 ∧ s10 = .int .i64 i ∧ Hid (Own wr w1.heap.size 3 s9 (ints ns)) ∧ Hid (Below w1.heap.size w1 wr) ∧ Hid (numsL ([p1.data.toList].take (i - 1)) = some ns)) (fun _ s10 _ _ _ => 2 - (intOf s10).toNat)
    case atStart => exact ⟨1, [], by omega, by omega, rfl, Own.nil _ _ _, Below.refl _ _, rfl⟩
    case round =>
      obtain ⟨i, ns, hi1, hi2, rfl, HO, HB, HN⟩ := hrel
      by_cases hlt : i < 2
      · have hltz : (i : Int) < 2 := by omega
        obtain ⟨px, hpx⟩ : ∃ x, (p0 :: [p1])[i]? = some x := ⟨(p0 :: [p1])[i]'(by show i < 2; exact hlt), List.getElem?_eq_getElem _⟩
        have hpy : [p1.data.toList][i - 1]? = some px.data.toList := by
          match i, hi1, hlt, hpx with
          | 1, _, _, hp => cases hp; rfl
        have cx := HW.out _ HB.out i px hpx
        have hsx : px.size ≤ 140737488351232 := by have := HSZ.out px (List.mem_of_getElem? hpx); omega
        have NU := hide (fun W => Ref.number7_any px W hsx)
        cases hn : numP px.data.toList with
        | none =>
          have HA2 : Hid (wordsA d (kwPublic :: r) = (ansBad, d)) := by rw [HA.out, nums_stop hpy hn]; exact rfl
          rw [(numW_none hn).1, hn] at NU
          simp only [Option.isSome_none] at NU
          clear hpx hpy hn HA
          go_wp2_with (fail)
          refine (NU.out _).mono ?_
          rintro e wz ⟨rfl, hw⟩
          rw [hw]
          clear hw NU
          go_wp2
          go_ret
          exact post_same HD.out (below_on HB1.out HB.out) HA2.out rfl
        | some n =>
          have HN2 := hide (nums_step HN.out hpy hn)
          have HL2 := hide (numsL_len HN.out)
          rw [(numW_some hn).1, hn] at NU
          simp only [Option.isSome_some] at NU
          have HRW := hide (row_new wr (n : Int) 3)
          have hsz := HB.out.size
          have hnl : ns.length ≤ 4 := by rw [HL2.out, List.length_take]; simp; omega
          have hnn : (ints ns).length ≤ 4 := by unfold ints; rw [List.length_map]; exact hnl
          clear hpx hpy hn HA
          go_wp2_with (fail)
          refine (NU.out _).mono ?_
          rintro e wz ⟨rfl, hw⟩
          rw [hw]
          clear hw NU
          go_wp2_with (at_builtin; refine wpList_app rfl _ _ 51 rfl w1.heap.size 3 info_int Tryz.underlying51 _ (ints ns) rfl (HO.out.alloc _) (some ⟨wr.heap.size, 0, none⟩) 1 1 [(n : Int)] rfl rfl (by simp) HRW.out (by simp; omega) (by simp; omega) ?_; intro v2 w2 ho2 hg2)
          have HO2 : Hid (Own w2 w1.heap.size 3 v2 (ints (ns ++ [n]))) := by rw [ints_snoc]; exact ho2
          have HB2 := hide ((HB.out.alloc hsz (.cells #[.int .i64 (n : Int)] 3)).grown hg2 (by simp; omega) (fun k hk => HO.out.block k hk))
          go_roundw
          case rel => exact ⟨i + 1, ns ++ [n], by omega, by omega, by go_num, HO2.out, HB2.out, by rw [show i + 1 - 1 = i - 1 + 1 by omega]; exact HN2.out⟩
          case measure => simp [intOf]; omega
      · have hie : i = 2 := by omega
        subst hie
        have hltz : ¬ ((2 : Nat) : Int) < 2 := by omega
        have hnl := numsL_len HN.out
        have hnb := numsL_lt HN.out
        have HNS : Hid (numsL [p1.data.toList] = some ns) := HN.out
        obtain ⟨n0, rfl⟩ : ∃ n0, ns = [n0] := by
          match ns, hnl with
          | [n0], _ => exact ⟨n0, rfl⟩
        obtain ⟨a9, cap9, hv9, _, hrow⟩ := HO.out.row
        rw [show (ints [n0]).length = 1 from rfl] at hv9
        subst hv9
        have cz := HW.out _ HB.out 0 p0 rfl
        have HR9 := hide hrow
        have HA3 : Hid (wordsA d (kwPublic :: r) = doL d kwPublic [] [n0]) := by rw [HA.out, HNS.out]; exact rfl
        clear HA HN HNS hnl hlt hi1 hi2 hrow
        have hn0 : n0 < 10000000 := hnb n0 (by simp)
        clear hnb
        obtain ⟨b9, o9, rfl, d0⟩ := row_cell (b := 0) HR9.out (i := 0) (y := (n0 : Int)) rfl
        simp only [Nat.add_zero] at d0
        have SE := hide (fun W => Ref.secret_any (n0 : Int) W)
        have HDO : Hid (doL d kwPublic [] [n0] = if secB (n0 : Int) = true then (digs (pwZ 64 (n0 : Int)), d) else (errN 1, d)) := rfl
        cases hse : secB (n0 : Int) with
        | true =>
          obtain ⟨hs1, hs2⟩ : 1 ≤ (n0 : Int) ∧ (n0 : Int) < 257 := by
            unfold secB at hse
            simpa using hse
          have PW := hide (fun W => Ref.power_any 64 (n0 : Int) W (by omega) (by omega) (by omega) (by omega))
          have hpw := pwZ_lt 64 (n0 : Int)
          have HA4 : Hid (wordsA d (kwPublic :: r) = (digs (pwZ 64 (n0 : Int)), d)) := by rw [HA3.out, HDO.out, if_pos hse]; exact rfl
          rw [hse] at SE
          generalize pwZ 64 (n0 : Int) = z at *
          obtain ⟨z, rfl⟩ : ∃ k : Nat, z = k := ⟨z.toNat, by omega⟩
          have DG := hide (fun W => Ref.digits_any z z W (Nat.le_refl _) (by omega))
          clear hse
          go_wp2_with (fail)
          refine (SE.out _).mono ?_
          rintro e wz ⟨rfl, hw⟩
          rw [hw]
          clear hw SE
          go_wp2_with (fail)
          refine (PW.out _).mono ?_
          rintro e wz ⟨rfl, hw⟩
          rw [hw]
          clear hw PW
          go_wp2_with (fail)
          refine (DG.out _).mono ?_
          rintro e wz ⟨rfl, hw⟩
          rw [hw]
          clear hw DG
          go_wp2
          go_ret
          exact post_same HD.out (below_on HB1.out HB.out) HA4.out rfl
        | false =>
          rw [hse] at SE
          have HSE := hide hse
          clear hse
          go_wp2_with (fail)
          refine (SE.out _).mono ?_
          rintro e wz ⟨rfl, hw⟩
          rw [hw]
          clear hw SE
          have NA := hide (show ∀ W, Calls Tryz.prog 17 #[.int .i64 1] W fun e w' => e = .returned (.string { data := (errN 1).toArray }) ∧ Below W.heap.size W w' from fun W => RunRef.name_any 1 (by omega) W)
          have HA4 : Hid (wordsA d (kwPublic :: r) = (errN 1, d)) := by rw [HA3.out, HDO.out, if_neg (by rw [HSE.out]; decide)]; exact rfl
          go_wp2_with (fail)
          refine (NA.out _).mono ?_
          rintro e w5 ⟨rfl, hb5⟩
          have HB5 := hide (below_on (below_on HB1.out HB.out) hb5)
          clear hb5 NA
          go_wp2
          go_ret
          exact post_same HD.out HB5.out HA4.out rfl
  · have HA : Hid (wordsA d (kwPublic :: r) = (ansBad, d)) := words_count hW (by rw [← HPR.out]; simpa using hl)
    have hlz : ¬ (pr.length : Int) = 1 := by omega
    have hlb : ((pr.length : Int) != 1) = true := bne_iff_ne.2 hlz
    clear hl hW
    go_wp2
    go_ret
    exact post_same HD.out HB1.out HA.out rfl
end Go.Proofs.YtjkcplpmhjnahaaGreatDoor.Desk
