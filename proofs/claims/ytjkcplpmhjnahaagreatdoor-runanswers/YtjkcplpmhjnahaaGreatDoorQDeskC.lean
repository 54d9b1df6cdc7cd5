/-
  Contracts of one line at the reference's desk (stairref2's (*Desk).Line): may; raise.
-/
import Derived.Test.YtjkcplpmhjnahaaGreatDoorQDeskAux
import Derived.Deep.DeepCutAuto
namespace Go.Proofs.YtjkcplpmhjnahaaGreatDoor.Desk
open Go.ChangeShapes Go.WideShapes Go.ChangeAt Go.RowKit
open Go.Proofs.YtjkcplpmhjnahaaGreatDoor.M
set_option linter.unusedVariables false
set_option linter.unusedSimpArgs false

set_option maxRecDepth 200000 in
set_option maxHeartbeats 8000000 in
theorem line_may (g : Nat) (v : Value) (cs : List (ByteArray × Int)) (d : Dk) (s : ByteArray) (w : World) (B : Nat) (h : DIs w B g v cs d) (hs : s.size ≤ 3000) (hB : B ≤ w.heap.size) (r : List (List UInt8)) (hc : cutG 32 [] s.data.toList = kwMay :: r) :
    Calls Tryz.prog 8 #[.pointer (some ⟨g, 0, none⟩), .string s] w (Post w B g v (wordsA d (kwMay :: r))) := by
  have hW : wantW kwMay = some (true, 1) := by decide
  have HD := hide h
  have HBB := hide hB
  have CU := hide (Ref.cutAt_any 32 32 (by decide) s w (by omega))
  have HC := hide hc
  clear h hc hB
  go_enter Tryz.func8, Tryz.ntmps8
  go_wp2_with (fail)
  refine CU.out.mono ?_
  rintro e w1 ⟨⟨vw, ps, rfl, ho, hps⟩, hb1⟩
  rw [HC.out] at hps
  obtain ⟨p0, pr, rfl, hp0, hpr⟩ := words_split hps
  obtain ⟨gw, cw, rfl, hw1, hw2, _⟩ := own_row1 txtV_len (own_txt ho) (by simp)
  have HW := hide (words_keep (own_txt ho))
  have HB1 := hide hb1
  have HGW := hide (show w.heap.size ≤ gw from ho.block gw rfl)
  have HPR := hide hpr
  have c0 := HW.out _ (Below.refl _ _) 0 p0 rfl
  have hlm : pr.length + 1 ≤ 9223372036854775807 := by
    unfold maxLen at hw2
    simp at hw1
    omega
  have qExtend : (p0.toList == [101, 120, 116, 101, 110, 100]) = false := lst_no (by rw [hp0]; decide)
  have qDigest : (p0.toList == [100, 105, 103, 101, 115, 116]) = false := lst_no (by rw [hp0]; decide)
  have qPublic : (p0.toList == [112, 117, 98, 108, 105, 99]) = false := lst_no (by rw [hp0]; decide)
  have qMeasure : (p0.toList == [109, 101, 97, 115, 117, 114, 101]) = false := lst_no (by rw [hp0]; decide)
  have qRaise : (p0.toList == [114, 97, 105, 115, 101]) = false := lst_no (by rw [hp0]; decide)
  have qMay : (p0.toList == [109, 97, 121]) = true := lst_yes (by rw [hp0]; rfl)
  have qSign : (p0.toList == [115, 105, 103, 110]) = false := lst_no (by rw [hp0]; decide)
  have qCheck : (p0.toList == [99, 104, 101, 99, 107]) = false := lst_no (by rw [hp0]; decide)
  have HSZ : Hid (∀ x ∈ p0 :: pr, x.size ≤ 3000) := word_size hps hs HC.out
  clear hps hpr ho hb1 hw1 hw2 CU HC
  have hlen : (p0 :: pr).length = pr.length + 1 := rfl
  rw [hlen]
  clear hlen
  clear hp0
  by_cases hl : pr.length = 2
  · obtain ⟨p1, p2, rfl⟩ : ∃ p1 p2, pr = [p1, p2] := by
      match pr, hl with
      | [p1, p2], _ => exact ⟨p1, p2, rfl⟩
    clear hl hlm
    simp only [List.map_cons, List.map_nil] at HPR
    have hz1 : p1.size ≤ 3000 ∨ True := Or.inr trivial
    have c1 := HW.out _ (Below.refl _ _) 1 p1 rfl
    by_cases hx : p1.size = 0
    · have e1 : p1.data.toList = [] := List.eq_nil_of_length_eq_zero (by simpa using hx)
      have h1 := Image.empty_is hx
      have h2 : (p1.toList == ({ data := #[] } : ByteArray).toList) = true := lit_yes e1
      have HA : Hid (wordsA d (kwMay :: r) = (ansBad, d)) := by rw [← HPR.out, e1]; exact words_empty hW rfl
      clear hx e1
      go_wp2
      go_ret
      exact post_same HD.out HB1.out HA.out rfl
    · have e1 : ¬ p1.data.toList = [] := fun e => hx (by have := congrArg List.length e; simpa using this)
      have h1 := Image.empty_not hx
      have h2 : (p1.toList == ({ data := #[] } : ByteArray).toList) = false := lit_no e1
      have HA : Hid (wordsA d (kwMay :: r) = match numsL [p2.data.toList] with
        | none => (ansBad, d)
        | some n => doL d kwMay p1.data.toList n) := by rw [← HPR.out]; exact words_named hW rfl e1
      clear hx e1 hz1
      clear hW HPR
      have hl2 : ((([p1, p2] : List ByteArray).length : Nat) : Int) = 2 := rfl
      go_wp2
      go_loopw [9, 10, 11, 12] (fun s9 s10 _ _ wr => ∃ (i : Nat) (ns : List Nat), 2 ≤ i ∧ i ≤ 3 ∧ s10 = .int .i64 i ∧ Hid (Own wr w1.heap.size 3 s9 (ints ns)) ∧ Hid (Below w1.heap.size w1 wr) ∧ Hid (numsL ([p2.data.toList].take (i - 2)) = some ns)) (fun _ s10 _ _ _ => 3 - (intOf s10).toNat)
      case atStart => exact ⟨2, [], by omega, by omega, rfl, Own.nil _ _ _, Below.refl _ _, rfl⟩
      case round =>
        obtain ⟨i, ns, hi1, hi2, rfl, HO, HB, HN⟩ := hrel
        by_cases hlt : i < 3
        · have hltz : (i : Int) < 3 := by omega
          obtain ⟨px, hpx⟩ : ∃ x, (p0 :: [p1, p2])[i]? = some x := ⟨(p0 :: [p1, p2])[i]'(by show i < 3; exact hlt), List.getElem?_eq_getElem _⟩
          have hpy : [p2.data.toList][i - 2]? = some px.data.toList := by
            match i, hi1, hlt, hpx with
            | 2, _, _, hp => cases hp; rfl
          have cx := HW.out _ HB.out i px hpx
          have hsx : px.size ≤ 140737488351232 := by have := HSZ.out px (List.mem_of_getElem? hpx); omega
          have NU := hide (fun W => Ref.number7_any px W hsx)
          cases hn : numP px.data.toList with
          | none =>
            have HA2 : Hid (wordsA d (kwMay :: r) = (ansBad, d)) := by rw [HA.out, nums_stop hpy hn]; exact rfl
            rw [(numW_none hn).1, hn] at NU
            simp only [Option.isSome_none] at NU
            clear hpx hpy hn HA
            go_wp2_with (fail)
            refine (NU.out _).mono ?_
            rintro e wz ⟨rfl, hw⟩
            rw [hw]
            clear hw NU
            go_wp2
            go_ret
            exact post_same HD.out (below_on HB1.out HB.out) HA2.out rfl
          | some n =>
            have HN2 := hide (nums_step HN.out hpy hn)
            have HL2 := hide (numsL_len HN.out)
            rw [(numW_some hn).1, hn] at NU
            simp only [Option.isSome_some] at NU
            have HRW := hide (row_new wr (n : Int) 3)
            have hsz := HB.out.size
            have hnl : ns.length ≤ 4 := by rw [HL2.out, List.length_take]; simp; omega
            have hnn : (ints ns).length ≤ 4 := by unfold ints; rw [List.length_map]; exact hnl
            clear hpx hpy hn HA
            go_wp2_with (fail)
            refine (NU.out _).mono ?_
            rintro e wz ⟨rfl, hw⟩
            rw [hw]
            clear hw NU
            go_wp2_with (at_builtin; refine wpList_app rfl _ _ 51 rfl w1.heap.size 3 info_int Tryz.underlying51 _ (ints ns) rfl (HO.out.alloc _) (some ⟨wr.heap.size, 0, none⟩) 1 1 [(n : Int)] rfl rfl (by simp) HRW.out (by simp; omega) (by simp; omega) ?_; intro v2 w2 ho2 hg2)
            have HO2 : Hid (Own w2 w1.heap.size 3 v2 (ints (ns ++ [n]))) := by rw [ints_snoc]; exact ho2
            have HB2 := hide ((HB.out.alloc hsz (.cells #[.int .i64 (n : Int)] 3)).grown hg2 (by simp; omega) (fun k hk => HO.out.block k hk))
            go_roundw
            case rel => exact ⟨i + 1, ns ++ [n], by omega, by omega, by go_num, HO2.out, HB2.out, by rw [show i + 1 - 2 = i - 2 + 1 by omega]; exact HN2.out⟩
            case measure => simp [intOf]; omega
        · have hie : i = 3 := by omega
          subst hie
          have hltz : ¬ ((3 : Nat) : Int) < 3 := by omega
          have hnl := numsL_len HN.out
          have hnb := numsL_lt HN.out
          have HNS : Hid (numsL [p2.data.toList] = some ns) := HN.out
          obtain ⟨n0, rfl⟩ : ∃ n0, ns = [n0] := by
            match ns, hnl with
            | [n0], _ => exact ⟨n0, rfl⟩
          obtain ⟨a9, cap9, hv9, _, hrow⟩ := HO.out.row
          rw [show (ints [n0]).length = 1 from rfl] at hv9
          subst hv9
          have cz := HW.out _ HB.out 0 p0 rfl
          have HR9 := hide hrow
          have HA3 : Hid (wordsA d (kwMay :: r) = doL d kwMay p1.data.toList [n0]) := by rw [HA.out, HNS.out]; exact rfl
          clear HA HN HNS hnl hlt hi1 hi2 hrow
          have hn0 : n0 < 10000000 := hnb n0 (by simp)
          clear hnb
          obtain ⟨b9, o9, rfl, d0⟩ := row_cell (b := 0) HR9.out (i := 0) (y := (n0 : Int)) rfl
          simp only [Nat.add_zero] at d0
          have cw := HW.out _ HB.out 1 p1 rfl
          have hz1 : p1.size ≤ 140737488351232 := by have := HSZ.out p1 (by simp); omega
          have HCI := hide (HD.out.below (below_on HB1.out HB.out)).1
          have MY := hide (fun (W : World) (h : CntRef.CIx (d.b.map (Value.int .i64)) 32 W B g v cs) => CntRef.may_any g v cs p1 (n0 : Int) W B h hz1)
          have HDO : Hid (doL d kwMay p1.data.toList [n0] = if mayE (CntRef.ofC cs) p1 (n0 : Int) = 0 then (ansOk, d) else (errN (mayE (CntRef.ofC cs) p1 (n0 : Int)), d)) := by
            rw [← HD.out.2.1]
            exact rfl
          have hme := may_nat (CntRef.ofC cs) p1 (n0 : Int)
          generalize mayE (CntRef.ofC cs) p1 (n0 : Int) = me at *
          obtain ⟨mn, rfl, hmn⟩ := hme
          have hci := HCI.out
          clear hn0
          go_wp2_with (fail)
          go_cut [15] (fun s15 w' => s15 = .int .i64 (mn : Int) ∧ Hid (KB wr w'))
          case first =>
            have hK : KB wr wr := Below.refl _ _
            go_region_held3 (fun W => W.cell? ⟨gw, 1, none⟩ = some (.string p1) ∧ W.cell? ⟨b9, o9, none⟩ = some (.int .i64 (n0 : Int)) ∧ KB wr W)
              (exact two_S (by with_reducible repeat (first | assumption | apply kb_drew)) (fun h => And.intro (kb_cell h cw) (kb_cell h d0)))
              (first | (go_at_call 25; refine (MY.out _ (by with_reducible repeat (first | assumption | apply cix_drew))).mono ?_; rintro e w6 ⟨rfl, h6⟩; subst h6))
            all_goals
              go_wp2
              go_meet
              exact ⟨rfl, hide (by with_reducible repeat (first | assumption | apply kb_drew))⟩
          case rest =>
          obtain ⟨rfl, HKC⟩ := hcut
          have HBC := hide (below_on (below_on HB1.out HB.out) HKC.out)
          clear HKC hci HCI MY
          by_cases h0 : mn = 0
          · subst h0
            have HA4 : Hid (wordsA d (kwMay :: r) = (ansOk, d)) := by rw [HA3.out, HDO.out]; exact if_pos rfl
            go_wp2
            go_ret
            exact post_same HD.out HBC.out HA4.out rfl
          · have h0z : ((mn : Int) == 0) = false := by simpa using h0
            have h0y : ((mn : Int) != 0) = true := by simpa using h0
            have h0x : ¬ (mn : Int) = 0 := by omega
            have NA := hide (fun W => RunRef.name_any mn hmn W)
            have HA4 : Hid (wordsA d (kwMay :: r) = (errN (mn : Int), d)) := by rw [HA3.out, HDO.out, if_neg h0x]; exact rfl
            go_wp2_with (fail)
            refine (NA.out _).mono ?_
            rintro e w5 ⟨rfl, hb5⟩
            have HB5 := hide (below_on HBC.out hb5)
            clear hb5 NA
            go_wp2
            go_ret
            exact post_same HD.out HB5.out HA4.out rfl
  · have HA : Hid (wordsA d (kwMay :: r) = (ansBad, d)) := words_count hW (by rw [← HPR.out]; simpa using hl)
    have hlz : ¬ (pr.length : Int) = 2 := by omega
    have hlb : ((pr.length : Int) != 2) = true := bne_iff_ne.2 hlz
    clear hl hW
    go_wp2
    go_ret
    exact post_same HD.out HB1.out HA.out rfl

set_option maxRecDepth 200000 in
set_option maxHeartbeats 8000000 in
theorem line_raise (g : Nat) (v : Value) (cs : List (ByteArray × Int)) (d : Dk) (s : ByteArray) (w : World) (B : Nat) (h : DIs w B g v cs d) (hs : s.size ≤ 3000) (hB : B ≤ w.heap.size) (r : List (List UInt8)) (hc : cutG 32 [] s.data.toList = kwRaise :: r) :
    Calls Tryz.prog 8 #[.pointer (some ⟨g, 0, none⟩), .string s] w (Post w B g v (wordsA d (kwRaise :: r))) := by
  have hW : wantW kwRaise = some (true, 1) := by decide
  have HD := hide h
  have HBB := hide hB
  have CU := hide (Ref.cutAt_any 32 32 (by decide) s w (by omega))
  have HC := hide hc
  clear h hc hB
  go_enter Tryz.func8, Tryz.ntmps8
  go_wp2_with (fail)
  refine CU.out.mono ?_
  rintro e w1 ⟨⟨vw, ps, rfl, ho, hps⟩, hb1⟩
  rw [HC.out] at hps
  obtain ⟨p0, pr, rfl, hp0, hpr⟩ := words_split hps
  obtain ⟨gw, cw, rfl, hw1, hw2, _⟩ := own_row1 txtV_len (own_txt ho) (by simp)
  have HW := hide (words_keep (own_txt ho))
  have HB1 := hide hb1
  have HGW := hide (show w.heap.size ≤ gw from ho.block gw rfl)
  have HPR := hide hpr
  have c0 := HW.out _ (Below.refl _ _) 0 p0 rfl
  have hlm : pr.length + 1 ≤ 9223372036854775807 := by
    unfold maxLen at hw2
    simp at hw1
    omega
  have qExtend : (p0.toList == [101, 120, 116, 101, 110, 100]) = false := lst_no (by rw [hp0]; decide)
  have qDigest : (p0.toList == [100, 105, 103, 101, 115, 116]) = false := lst_no (by rw [hp0]; decide)
  have qPublic : (p0.toList == [112, 117, 98, 108, 105, 99]) = false := lst_no (by rw [hp0]; decide)
  have qMeasure : (p0.toList == [109, 101, 97, 115, 117, 114, 101]) = false := lst_no (by rw [hp0]; decide)
  have qRaise : (p0.toList == [114, 97, 105, 115, 101]) = true := lst_yes (by rw [hp0]; rfl)
  have qMay : (p0.toList == [109, 97, 121]) = false := lst_no (by rw [hp0]; decide)
  have qSign : (p0.toList == [115, 105, 103, 110]) = false := lst_no (by rw [hp0]; decide)
  have qCheck : (p0.toList == [99, 104, 101, 99, 107]) = false := lst_no (by rw [hp0]; decide)
  have HSZ : Hid (∀ x ∈ p0 :: pr, x.size ≤ 3000) := word_size hps hs HC.out
  clear hps hpr ho hb1 hw1 hw2 CU HC
  have hlen : (p0 :: pr).length = pr.length + 1 := rfl
  rw [hlen]
  clear hlen
  clear hp0
  by_cases hl : pr.length = 2
  · obtain ⟨p1, p2, rfl⟩ : ∃ p1 p2, pr = [p1, p2] := by
      match pr, hl with
      | [p1, p2], _ => exact ⟨p1, p2, rfl⟩
    clear hl hlm
    simp only [List.map_cons, List.map_nil] at HPR
    have hz1 : p1.size ≤ 3000 ∨ True := Or.inr trivial
    have c1 := HW.out _ (Below.refl _ _) 1 p1 rfl
    by_cases hx : p1.size = 0
    · have e1 : p1.data.toList = [] := List.eq_nil_of_length_eq_zero (by simpa using hx)
      have h1 := Image.empty_is hx
      have h2 : (p1.toList == ({ data := #[] } : ByteArray).toList) = true := lit_yes e1
      have HA : Hid (wordsA d (kwRaise :: r) = (ansBad, d)) := by rw [← HPR.out, e1]; exact words_empty hW rfl
      clear hx e1
      go_wp2
      go_ret
      exact post_same HD.out HB1.out HA.out rfl
    · have e1 : ¬ p1.data.toList = [] := fun e => hx (by have := congrArg List.length e; simpa using this)
      have h1 := Image.empty_not hx
      have h2 : (p1.toList == ({ data := #[] } : ByteArray).toList) = false := lit_no e1
      have HA : Hid (wordsA d (kwRaise :: r) = match numsL [p2.data.toList] with
        | none => (ansBad, d)
        | some n => doL d kwRaise p1.data.toList n) := by rw [← HPR.out]; exact words_named hW rfl e1
      clear hx e1 hz1
      clear hW HPR
      have hl2 : ((([p1, p2] : List ByteArray).length : Nat) : Int) = 2 := rfl
      go_wp2
      go_loopw [9, 10, 11, 12] (fun s9 s10 _ _ wr => ∃ (i : Nat) (ns : List Nat), 2 ≤ i ∧ i ≤ 3 ∧ s10 = .int .i64 i ∧ Hid (Own wr w1.heap.size 3 s9 (ints ns)) ∧ Hid (Below w1.heap.size w1 wr) ∧ Hid (numsL ([p2.data.toList].take (i - 2)) = some ns)) (fun _ s10 _ _ _ => 3 - (intOf s10).toNat)
      case atStart => exact ⟨2, [], by omega, by omega, rfl, Own.nil _ _ _, Below.refl _ _, rfl⟩
      case round =>
        obtain ⟨i, ns, hi1, hi2, rfl, HO, HB, HN⟩ := hrel
        by_cases hlt : i < 3
        · have hltz : (i : Int) < 3 := by omega
          obtain ⟨px, hpx⟩ : ∃ x, (p0 :: [p1, p2])[i]? = some x := ⟨(p0 :: [p1, p2])[i]'(by show i < 3; exact hlt), List.getElem?_eq_getElem _⟩
          have hpy : [p2.data.toList][i - 2]? = some px.data.toList := by
            match i, hi1, hlt, hpx with
            | 2, _, _, hp => cases hp; rfl
          have cx := HW.out _ HB.out i px hpx
          have hsx : px.size ≤ 140737488351232 := by have := HSZ.out px (List.mem_of_getElem? hpx); omega
          have NU := hide (fun W => Ref.number7_any px W hsx)
          cases hn : numP px.data.toList with
          | none =>
            have HA2 : Hid (wordsA d (kwRaise :: r) = (ansBad, d)) := by rw [HA.out, nums_stop hpy hn]; exact rfl
            rw [(numW_none hn).1, hn] at NU
            simp only [Option.isSome_none] at NU
            clear hpx hpy hn HA
            go_wp2_with (fail)
            refine (NU.out _).mono ?_
            rintro e wz ⟨rfl, hw⟩
            rw [hw]
            clear hw NU
            go_wp2
            go_ret
            exact post_same HD.out (below_on HB1.out HB.out) HA2.out rfl
          | some n =>
            have HN2 := hide (nums_step HN.out hpy hn)
            have HL2 := hide (numsL_len HN.out)
            rw [(numW_some hn).1, hn] at NU
            simp only [Option.isSome_some] at NU
            have HRW := hide (row_new wr (n : Int) 3)
            have hsz := HB.out.size
            have hnl : ns.length ≤ 4 := by rw [HL2.out, List.length_take]; simp; omega
            have hnn : (ints ns).length ≤ 4 := by unfold ints; rw [List.length_map]; exact hnl
            clear hpx hpy hn HA
            go_wp2_with (fail)
            refine (NU.out _).mono ?_
            rintro e wz ⟨rfl, hw⟩
            rw [hw]
            clear hw NU
            go_wp2_with (at_builtin; refine wpList_app rfl _ _ 51 rfl w1.heap.size 3 info_int Tryz.underlying51 _ (ints ns) rfl (HO.out.alloc _) (some ⟨wr.heap.size, 0, none⟩) 1 1 [(n : Int)] rfl rfl (by simp) HRW.out (by simp; omega) (by simp; omega) ?_; intro v2 w2 ho2 hg2)
            have HO2 : Hid (Own w2 w1.heap.size 3 v2 (ints (ns ++ [n]))) := by rw [ints_snoc]; exact ho2
            have HB2 := hide ((HB.out.alloc hsz (.cells #[.int .i64 (n : Int)] 3)).grown hg2 (by simp; omega) (fun k hk => HO.out.block k hk))
            go_roundw
            case rel => exact ⟨i + 1, ns ++ [n], by omega, by omega, by go_num, HO2.out, HB2.out, by rw [show i + 1 - 2 = i - 2 + 1 by omega]; exact HN2.out⟩
            case measure => simp [intOf]; omega
        · have hie : i = 3 := by omega
          subst hie
          have hltz : ¬ ((3 : Nat) : Int) < 3 := by omega
          have hnl := numsL_len HN.out
          have hnb := numsL_lt HN.out
          have HNS : Hid (numsL [p2.data.toList] = some ns) := HN.out
          obtain ⟨n0, rfl⟩ : ∃ n0, ns = [n0] := by
            match ns, hnl with
            | [n0], _ => exact ⟨n0, rfl⟩
          obtain ⟨a9, cap9, hv9, _, hrow⟩ := HO.out.row
          rw [show (ints [n0]).length = 1 from rfl] at hv9
          subst hv9
          have cz := HW.out _ HB.out 0 p0 rfl
          have HR9 := hide hrow
          have HA3 : Hid (wordsA d (kwRaise :: r) = doL d kwRaise p1.data.toList [n0]) := by rw [HA.out, HNS.out]; exact rfl
          clear HA HN HNS hnl hlt hi1 hi2 hrow
          have hn0 : n0 < 10000000 := hnb n0 (by simp)
          clear hnb
          obtain ⟨b9, o9, rfl, d0⟩ := row_cell (b := 0) HR9.out (i := 0) (y := (n0 : Int)) rfl
          simp only [Nat.add_zero] at d0
          have cw := HW.out _ HB.out 1 p1 rfl
          have hz1 : p1.size ≤ 140737488351232 := by have := HSZ.out p1 (by simp); omega
          have hDw := HD.out.below (below_on HB1.out HB.out)
          have hci := hDw.1
          have hBw : B ≤ wr.heap.size := by
            have h1 := HBB.out
            have h2 := HB1.out.size
            have h3 := HB.out.size
            omega
          have hf1 : ¬ CntRef.cfoot g v gw := fun hc => by
            have h1 := (CntRef.CIx.has HD.out.1 gw hc).2
            have h2 := HGW.out
            omega
          have hf2 : ¬ CntRef.cfoot g v b9 := fun hc => by
            have h1 := (CntRef.CIx.has HD.out.1 b9 hc).2
            have h2 := HO.out.block b9 rfl
            have h3 := HB1.out.size
            omega
          have RA := hide (fun (W : World) (h : CntRef.CIx (d.b.map (Value.int .i64)) 32 W B g v cs) (hs : B ≤ W.heap.size) => CntRef.raise_any g v cs p1 (n0 : Int) W B h hz1 hs)
          have HPO := hide (fun (e : Ending) (W W5 w5 : World) (h0 : RX wr g v W) (ha : CntRef.AfterX (d.b.map (Value.int .i64)) 32 W B g v cs p1 (n0 : Int) W5) (h5 : Below W5.heap.size W5 w5) (he : e = .returned (.string { data := (if raiE (CntRef.ofC cs) cs.length p1 (n0 : Int) = 0 then (if raiB (CntRef.ofC cs) cs.length p1 (n0 : Int) = true then ansYes else ansNo) else errN (raiE (CntRef.ofC cs) cs.length p1 (n0 : Int))).toArray })) => raise_post (r := r) HD.out (below_on HB1.out HB.out) h0 ha h5 he HA3.out)
          obtain ⟨rn, hrn, hrn9⟩ := rai_nat (CntRef.ofC cs) cs.length p1 (n0 : Int)
          rw [hrn] at RA HPO
          generalize raiB (CntRef.ofC cs) cs.length p1 (n0 : Int) = rb at *
          have YE := hide (fun W => RunRef.yes_any rb rn hrn9 W)
          have hif : (if (rn : Int) = 0 then (if rb = true then ansYes else ansNo) else errN (rn : Int)) = if rn = 0 then (if rb = true then ansYes else ansNo) else errN (rn : Int) := by
            by_cases h : rn = 0
            · rw [if_pos h, if_pos (by omega)]
            · rw [if_neg h, if_neg (by omega)]
          rw [hif] at HPO
          generalize (if rn = 0 then (if rb = true then ansYes else ansNo) else errN (rn : Int)) = ans at *
          have hX : RX wr g v wr := Only.refl _ _
          clear hn0 hrn hif hDw
          go_wp2_with (fail)
          go_region_held3 (fun W => W.cell? ⟨gw, 1, none⟩ = some (.string p1) ∧ W.cell? ⟨b9, o9, none⟩ = some (.int .i64 (n0 : Int)) ∧ RX wr g v W)
            (exact two_S (by with_reducible repeat (first | assumption | apply rx_drew)) (fun h => And.intro (only_cell h (cell_lt cw) hf1 cw) (only_cell h (cell_lt d0) hf2 d0)))
            (first | (go_at_call 24; refine (RA.out _ (by with_reducible repeat (first | assumption | apply cix_drew)) (by simpa using hBw)).mono ?_; rintro e w5 ⟨rfl, ha5⟩; have hX5 : RX wr g v w5 := rx_after (by with_reducible repeat (first | assumption | apply rx_drew)) ha5; have hA5 := AX.mk (by with_reducible repeat (first | assumption | apply rx_drew)) ha5; clear ha5) | (go_at_call 23; refine (YE.out _).mono ?_; rintro e w6 ⟨rfl, hb6⟩; have hX6 : RX wr g v w6 := rx_below (by with_reducible repeat (first | assumption | apply rx_drew)) hb6; have hA6 := ax_below (by with_reducible repeat (first | assumption | apply ax_drew)) hb6; clear hb6))
          all_goals
            go_wp2
            go_ret
            obtain ⟨W0, W5, h0, ha, h5⟩ := (show AX (d.b.map (Value.int .i64)) wr B g v cs p1 (n0 : Int) _ by with_reducible repeat (first | assumption | apply ax_drew))
            exact HPO.out _ W0 W5 _ h0 ha h5 rfl
  · have HA : Hid (wordsA d (kwRaise :: r) = (ansBad, d)) := words_count hW (by rw [← HPR.out]; simpa using hl)
    have hlz : ¬ (pr.length : Int) = 2 := by omega
    have hlb : ((pr.length : Int) != 2) = true := bne_iff_ne.2 hlz
    clear hl hW
    go_wp2
    go_ret
    exact post_same HD.out HB1.out HA.out rfl
end Go.Proofs.YtjkcplpmhjnahaaGreatDoor.Desk
