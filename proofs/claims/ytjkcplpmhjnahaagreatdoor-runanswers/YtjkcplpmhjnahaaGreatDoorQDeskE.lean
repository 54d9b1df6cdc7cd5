/-
  Contracts of one line at the reference's desk (stairref2's (*Desk).Line): sign.
-/
import Derived.Test.YtjkcplpmhjnahaaGreatDoorQDeskAux
import Derived.Deep.DeepCutAuto
namespace Go.Proofs.YtjkcplpmhjnahaaGreatDoor.Desk
open Go.ChangeShapes Go.WideShapes Go.ChangeAt Go.RowKit
open Go.Proofs.YtjkcplpmhjnahaaGreatDoor.M
set_option linter.unusedVariables false
set_option linter.unusedSimpArgs false

set_option maxRecDepth 200000 in
set_option maxHeartbeats 8000000 in
theorem line_sign (g : Nat) (v : Value) (cs : List (ByteArray × Int)) (d : Dk) (s : ByteArray) (w : World) (B : Nat) (h : DIs w B g v cs d) (hs : s.size ≤ 3000) (hB : B ≤ w.heap.size) (r : List (List UInt8)) (hc : cutG 32 [] s.data.toList = kwSign :: r) :
    Calls Tryz.prog 8 #[.pointer (some ⟨g, 0, none⟩), .string s] w (Post w B g v (wordsA d (kwSign :: r))) := by
  have hW : wantW kwSign = some (false, 3) := by decide
  have HD := hide h
  have HBB := hide hB
  have CU := hide (Ref.cutAt_any 32 32 (by decide) s w (by omega))
  have HC := hide hc
  clear h hc hB
  go_enter Tryz.func8, Tryz.ntmps8
  go_wp2_with (fail)
  refine CU.out.mono ?_
  rintro e w1 ⟨⟨vw, ps, rfl, ho, hps⟩, hb1⟩
  rw [HC.out] at hps
  obtain ⟨p0, pr, rfl, hp0, hpr⟩ := words_split hps
  obtain ⟨gw, cw, rfl, hw1, hw2, _⟩ := own_row1 txtV_len (own_txt ho) (by simp)
  have HW := hide (words_keep (own_txt ho))
  have HB1 := hide hb1
  have HGW := hide (show w.heap.size ≤ gw from ho.block gw rfl)
  have HPR := hide hpr
  have c0 := HW.out _ (Below.refl _ _) 0 p0 rfl
  have hlm : pr.length + 1 ≤ 9223372036854775807 := by
    unfold maxLen at hw2
    simp at hw1
    omega
  have qExtend : (p0.toList == [101, 120, 116, 101, 110, 100]) = false := lst_no (by rw [hp0]; decide)
  have qDigest : (p0.toList == [100, 105, 103, 101, 115, 116]) = false := lst_no (by rw [hp0]; decide)
  have qPublic : (p0.toList == [112, 117, 98, 108, 105, 99]) = false := lst_no (by rw [hp0]; decide)
  have qMeasure : (p0.toList == [109, 101, 97, 115, 117, 114, 101]) = false := lst_no (by rw [hp0]; decide)
  have qRaise : (p0.toList == [114, 97, 105, 115, 101]) = false := lst_no (by rw [hp0]; decide)
  have qMay : (p0.toList == [109, 97, 121]) = false := lst_no (by rw [hp0]; decide)
  have qSign : (p0.toList == [115, 105, 103, 110]) = true := lst_yes (by rw [hp0]; rfl)
  have qCheck : (p0.toList == [99, 104, 101, 99, 107]) = false := lst_no (by rw [hp0]; decide)
  have HSZ : Hid (∀ x ∈ p0 :: pr, x.size ≤ 3000) := word_size hps hs HC.out
  clear hps hpr ho hb1 hw1 hw2 CU HC
  have hlen : (p0 :: pr).length = pr.length + 1 := rfl
  rw [hlen]
  clear hlen
  clear hp0
  by_cases hl : pr.length = 3
  · obtain ⟨p1, p2, p3, rfl⟩ : ∃ p1 p2 p3, pr = [p1, p2, p3] := by
      match pr, hl with
      | [p1, p2, p3], _ => exact ⟨p1, p2, p3, rfl⟩
    clear hl hlm
    simp only [List.map_cons, List.map_nil] at HPR
    have HA : Hid (wordsA d (kwSign :: r) = match numsL [p1.data.toList, p2.data.toList, p3.data.toList] with
      | none => (ansBad, d)
      | some n => doL d kwSign [] n) := by rw [← HPR.out]; exact words_plain hW rfl
    clear hW HPR
    have hl2 : ((([p1, p2, p3] : List ByteArray).length : Nat) : Int) = 3 := rfl
    go_wp2
    go_loopw [9, 10, 11, 12] (fun s9 s10 _ _ wr => ∃ (i : Nat) (ns : List Nat), 1 ≤ i ∧ i ≤ 4 ∧ s10 = .int .i64 i ∧ Hid (Own wr w1.heap.size 3 s9 (ints ns)) ∧ Hid (Below w1.heap.size w1 wr) ∧ Hid (numsL ([p1.data.toList, p2.data.toList, p3.data.toList].take (i - 1)) = some ns)) (fun _ s10 _ _ _ => 4 - (intOf s10).toNat)
    case atStart => exact ⟨1, [], by omega, by omega, rfl, Own.nil _ _ _, Below.refl _ _, rfl⟩
    case round =>
      obtain ⟨i, ns, hi1, hi2, rfl, HO, HB, HN⟩ := hrel
      by_cases hlt : i < 4
      · have hltz : (i : Int) < 4 := by omega
        obtain ⟨px, hpx⟩ : ∃ x, (p0 :: [p1, p2, p3])[i]? = some x := ⟨(p0 :: [p1, p2, p3])[i]'(by show i < 4; exact hlt), List.getElem?_eq_getElem _⟩
        have hpy : [p1.data.toList, p2.data.toList, p3.data.toList][i - 1]? = some px.data.toList := by
          match i, hi1, hlt, hpx with
          | 1, _, _, hp => cases hp; rfl
          | 2, _, _, hp => cases hp; rfl
          | 3, _, _, hp => cases hp; rfl
        have cx := HW.out _ HB.out i px hpx
        have hsx : px.size ≤ 140737488351232 := by have := HSZ.out px (List.mem_of_getElem? hpx); omega
        have NU := hide (fun W => Ref.number7_any px W hsx)
        cases hn : numP px.data.toList with
        | none =>
          have HA2 : Hid (wordsA d (kwSign :: r) = (ansBad, d)) := by rw [HA.out, nums_stop hpy hn]; exact rfl
          rw [(numW_none hn).1, hn] at NU
          simp only [Option.isSome_none] at NU
          clear hpx hpy hn HA
          go_wp2_with (fail)
          refine (NU.out _).mono ?_
          rintro e wz ⟨rfl, hw⟩
          rw [hw]
          clear hw NU
          go_wp2
          go_ret
          exact post_same HD.out (below_on HB1.out HB.out) HA2.out rfl
        | some n =>
          have HN2 := hide (nums_step HN.out hpy hn)
          have HL2 := hide (numsL_len HN.out)
          rw [(numW_some hn).1, hn] at NU
          simp only [Option.isSome_some] at NU
          have HRW := hide (row_new wr (n : Int) 3)
          have hsz := HB.out.size
          have hnl : ns.length ≤ 4 := by rw [HL2.out, List.length_take]; simp; omega
          have hnn : (ints ns).length ≤ 4 := by unfold ints; rw [List.length_map]; exact hnl
          clear hpx hpy hn HA
          go_wp2_with (fail)
          refine (NU.out _).mono ?_
          rintro e wz ⟨rfl, hw⟩
          rw [hw]
          clear hw NU
          go_wp2_with (at_builtin; refine wpList_app rfl _ _ 51 rfl w1.heap.size 3 info_int Tryz.underlying51 _ (ints ns) rfl (HO.out.alloc _) (some ⟨wr.heap.size, 0, none⟩) 1 1 [(n : Int)] rfl rfl (by simp) HRW.out (by simp; omega) (by simp; omega) ?_; intro v2 w2 ho2 hg2)
          have HO2 : Hid (Own w2 w1.heap.size 3 v2 (ints (ns ++ [n]))) := by rw [ints_snoc]; exact ho2
          have HB2 := hide ((HB.out.alloc hsz (.cells #[.int .i64 (n : Int)] 3)).grown hg2 (by simp; omega) (fun k hk => HO.out.block k hk))
          go_roundw
          case rel => exact ⟨i + 1, ns ++ [n], by omega, by omega, by go_num, HO2.out, HB2.out, by rw [show i + 1 - 1 = i - 1 + 1 by omega]; exact HN2.out⟩
          case measure => simp [intOf]; omega
      · have hie : i = 4 := by omega
        subst hie
        have hltz : ¬ ((4 : Nat) : Int) < 4 := by omega
        have hnl := numsL_len HN.out
        have hnb := numsL_lt HN.out
        have HNS : Hid (numsL [p1.data.toList, p2.data.toList, p3.data.toList] = some ns) := HN.out
        obtain ⟨n0, n1, n2, rfl⟩ : ∃ n0 n1 n2, ns = [n0, n1, n2] := by
          match ns, hnl with
          | [n0, n1, n2], _ => exact ⟨n0, n1, n2, rfl⟩
        obtain ⟨a9, cap9, hv9, _, hrow⟩ := HO.out.row
        rw [show (ints [n0, n1, n2]).length = 3 from rfl] at hv9
        subst hv9
        have cz := HW.out _ HB.out 0 p0 rfl
        have HR9 := hide hrow
        have HA3 : Hid (wordsA d (kwSign :: r) = doL d kwSign [] [n0, n1, n2]) := by rw [HA.out, HNS.out]; exact rfl
        clear HA HN HNS hnl hlt hi1 hi2 hrow
        have hn0 : n0 < 10000000 := hnb n0 (by simp)
        have hn1 : n1 < 10000000 := hnb n1 (by simp)
        have hn2 : n2 < 10000000 := hnb n2 (by simp)
        clear hnb
        obtain ⟨b9, o9, rfl, d0⟩ := row_cell (b := 0) HR9.out (i := 0) (y := (n0 : Int)) rfl
        obtain ⟨b9', o9', e9, d1⟩ := row_cell (b := 0) HR9.out (i := 1) (y := (n1 : Int)) rfl
        cases e9
        obtain ⟨b9', o9', e9, d2⟩ := row_cell (b := 0) HR9.out (i := 2) (y := (n2 : Int)) rfl
        cases e9
        simp only [Nat.add_zero] at d0
        have HNC : Hid (∀ W, KB wr W → W.cell? ⟨b9, o9, none⟩ = some (.int .i64 (n0 : Int)) ∧ (W.cell? ⟨b9, o9 + 1, none⟩ = some (.int .i64 (n1 : Int)) ∧ W.cell? ⟨b9, o9 + 2, none⟩ = some (.int .i64 (n2 : Int)))) := fun W h => ⟨kb_cell h d0, kb_cell h d1, kb_cell h d2⟩
        have SD := hide (fun W => Ref.signed_any (n0 : Int) (n1 : Int) (n2 : Int) W)
        have HDO : Hid (doL d kwSign [] [n0, n1, n2] = if sigC (n0 : Int) (n1 : Int) (n2 : Int) = 0 then (digs (sigP (n0 : Int) (n1 : Int) (n2 : Int)) ++ [32] ++ digs (sigA (n0 : Int) (n1 : Int) (n2 : Int)), d) else (errN (sigC (n0 : Int) (n1 : Int) (n2 : Int)), d)) := rfl
        have HSC := hide (show sigC (n0 : Int) (n1 : Int) (n2 : Int) = 0 → secB (n0 : Int) = true ∧ secB (n1 : Int) = true ∧ isM (n2 : Int) = true from fun h => by
          unfold sigC at h
          split at h
          · assumption
          · cases h)
        have hsc : sigC (n0 : Int) (n1 : Int) (n2 : Int) = 0 ∨ sigC (n0 : Int) (n1 : Int) (n2 : Int) = 1 := by unfold sigC; split <;> simp
        have SG := hide (fun (h : sigC (n0 : Int) (n1 : Int) (n2 : Int) = 0) (W : World) => Ref.sign_ok (n0 : Int) (n1 : Int) (n2 : Int) W (HSC.out h).1 (HSC.out h).2.1 (HSC.out h).2.2)
        have hsp : 0 ≤ sigP (n0 : Int) (n1 : Int) (n2 : Int) ∧ sigP (n0 : Int) (n1 : Int) (n2 : Int) < 1543 := by
          unfold sigP
          split
          · exact pwZ_lt _ _
          · omega
        have hsa : 0 ≤ sigA (n0 : Int) (n1 : Int) (n2 : Int) ∧ sigA (n0 : Int) (n1 : Int) (n2 : Int) < 257 := by
          unfold sigA
          split <;> omega
        unfold sealC at SG
        generalize sigC (n0 : Int) (n1 : Int) (n2 : Int) = sc at *
        generalize sigP (n0 : Int) (n1 : Int) (n2 : Int) = zp at *
        generalize sigA (n0 : Int) (n1 : Int) (n2 : Int) = za at *
        obtain ⟨zp, rfl⟩ : ∃ k : Nat, zp = k := ⟨zp.toNat, by omega⟩
        obtain ⟨za, rfl⟩ : ∃ k : Nat, za = k := ⟨za.toNat, by omega⟩
        have DP := hide (fun W => Ref.digits_any zp zp W (Nat.le_refl _) (by omega))
        have DA := hide (fun W => Ref.digits_any za za W (Nat.le_refl _) (by omega))
        have hK : KB wr wr := Below.refl _ _
        clear hn0 hn1 hn2 HSC
        go_wp2_with (fail)
        go_cut [16] (fun s16 w' => s16 = .int .i64 sc ∧ Hid (KB wr w'))
        case first =>
          go_region_held3 (fun W => W.cell? ⟨b9, o9, none⟩ = some (.int .i64 (n0 : Int)) ∧ (W.cell? ⟨b9, o9 + 1, none⟩ = some (.int .i64 (n1 : Int)) ∧ W.cell? ⟨b9, o9 + 2, none⟩ = some (.int .i64 (n2 : Int))) ∧ KB wr W)
            (exact two_S (by with_reducible repeat (first | assumption | apply kb_drew)) (fun h => HNC.out _ h))
            (first | (go_at_call 26; refine (SD.out _).mono ?_; rintro e w6 ⟨rfl, h6⟩; subst h6))
          all_goals
            go_wp2
            go_meet
            exact ⟨rfl, hide (by with_reducible repeat (first | assumption | apply kb_drew))⟩
        case rest =>
        obtain ⟨rfl, HKC⟩ := hcut
        have HBC := hide (below_on (below_on HB1.out HB.out) HKC.out)
        rcases hsc with rfl | rfl
        · have SG1 := hide (SG.out rfl)
          obtain ⟨f0, f1, f2⟩ := HNC.out _ HKC.out
          have HA4 : Hid (wordsA d (kwSign :: r) = (digs (zp : Int) ++ [32] ++ digs (za : Int), d)) := by rw [HA3.out, HDO.out, if_pos rfl]; exact rfl
          clear SG SD HNC HKC hK d0 d1 d2 cz
          go_wp2_with (fail)
          go_cut [17] (fun s17 w' => ∃ gs : Nat, s17 = .pointer (some ⟨gs, 0, none⟩) ∧ Hid (SL wc gs (zp : Int) (za : Int) w'))
          case first =>
            have hKc : KB wc wc := kb_refl _
            go_region_held3 (fun W => W.cell? ⟨b9, o9, none⟩ = some (.int .i64 (n0 : Int)) ∧ (W.cell? ⟨b9, o9 + 1, none⟩ = some (.int .i64 (n1 : Int)) ∧ W.cell? ⟨b9, o9 + 2, none⟩ = some (.int .i64 (n2 : Int))) ∧ KB wc W)
              (exact two_S (by with_reducible repeat (first | assumption | apply kb_drew | apply kb_alloc | apply kb_set0)) (fun h => And.intro (kb_cell h f0) (And.intro (kb_cell h f1) (kb_cell h f2))))
              (first | (go_at_call 27; refine (SG1.out _).mono ?_; rintro e w5 ⟨rfl, hb5⟩; have hK5 : KB wc w5 := kb_below (by with_reducible repeat (first | assumption | apply kb_drew | apply kb_alloc)) hb5; have g0 := kb_cell hK5 f0; have g1 := kb_cell hK5 f1; have g2 := kb_cell hK5 f2; have hc5 := cell_pass hb5 wc.heap.size; have hf5 := froz_pass hb5 wc.heap.size))
            all_goals
              go_wp2
              go_meet
              exact ⟨_, rfl, hide (by with_reducible first | exact sl_alloc hK5 | exact sl_drew (sl_alloc hK5) | exact sl_two hb5 hK5 | exact sl_twod hb5 hK5 | exact sl_one hb5 hK5 | exact sl_oned hb5 hK5 | exact sl_drew (sl_two hb5 hK5) | exact sl_drew (sl_one hb5 hK5))⟩
          case rest =>
          obtain ⟨gs, rfl, HSL⟩ := hcut
          obtain ⟨s0, s1⟩ := seal_cells HSL.out.1
          have HB5 := hide (below_on HBC.out HSL.out.2)
          have hsz1 : ¬ 9223372036854775807 < ({ data := (Lib.decDigits zp).toArray } : ByteArray).size + 1 := by rw [dig_size]; have := M.dec_len 6 zp (by omega); omega
          have hsz2 : ¬ 9223372036854775807 < ({ data := (Lib.decDigits zp).toArray } : ByteArray).size + 1 + ({ data := (Lib.decDigits za).toArray } : ByteArray).size := by rw [dig_size, dig_size]; have := M.dec_len 6 zp (by omega); have := M.dec_len 6 za (by omega); omega
          clear HSL f0 f1 f2
          go_wp2_with (fail)
          refine (DP.out _).mono ?_
          rintro e wz ⟨rfl, hw⟩
          rw [hw]
          clear hw DP
          go_wp2_with (fail)
          refine (DA.out _).mono ?_
          rintro e wz ⟨rfl, hw⟩
          rw [hw]
          clear hw DA
          have HAP := hide (app_sign zp za)
          generalize ({ data := (Lib.decDigits zp).toArray } : ByteArray) = sp at *
          generalize ({ data := (Lib.decDigits za).toArray } : ByteArray) = sa at *
          go_wp2
          go_ret
          exact post_same HD.out HB5.out HA4.out (by rw [← HAP.out]; rfl)
        · have HKC2 := hide HKC.out
          have NA := hide (show ∀ W, Calls Tryz.prog 17 #[.int .i64 1] W fun e w' => e = .returned (.string { data := (errN 1).toArray }) ∧ Below W.heap.size W w' from fun W => RunRef.name_any 1 (by omega) W)
          have HA4 : Hid (wordsA d (kwSign :: r) = (errN 1, d)) := by rw [HA3.out, HDO.out, if_neg (by decide)]; exact rfl
          go_wp2_with (fail)
          refine (NA.out _).mono ?_
          rintro e w5 ⟨rfl, hb5⟩
          have HB5 := hide (below_on HBC.out hb5)
          clear hb5 NA
          go_wp2
          go_ret
          exact post_same HD.out HB5.out HA4.out rfl
  · have HA : Hid (wordsA d (kwSign :: r) = (ansBad, d)) := words_count hW (by rw [← HPR.out]; simpa using hl)
    have hlz : ¬ (pr.length : Int) = 3 := by omega
    have hlb : ((pr.length : Int) != 3) = true := bne_iff_ne.2 hlz
    clear hl hW
    go_wp2
    go_ret
    exact post_same HD.out HB1.out HA.out rfl
end Go.Proofs.YtjkcplpmhjnahaaGreatDoor.Desk
