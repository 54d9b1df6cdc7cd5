/-
  Contracts of one line at the reference's desk (stairref2's (*Desk).Line): digest; extend.
-/
import Derived.Test.YtjkcplpmhjnahaaGreatDoorQDeskAux
import Derived.Deep.DeepCutAuto
namespace Go.Proofs.YtjkcplpmhjnahaaGreatDoor.Desk
open Go.ChangeShapes Go.WideShapes Go.ChangeAt Go.RowKit
open Go.Proofs.YtjkcplpmhjnahaaGreatDoor.M
set_option linter.unusedVariables false
set_option linter.unusedSimpArgs false

set_option maxRecDepth 200000 in
set_option maxHeartbeats 8000000 in
theorem line_digest (g : Nat) (v : Value) (cs : List (ByteArray × Int)) (d : Dk) (s : ByteArray) (w : World) (B : Nat) (h : DIs w B g v cs d) (hs : s.size ≤ 3000) (hB : B ≤ w.heap.size) (r : List (List UInt8)) (hc : cutG 32 [] s.data.toList = kwDigest :: r) :
    Calls Tryz.prog 8 #[.pointer (some ⟨g, 0, none⟩), .string s] w (Post w B g v (wordsA d (kwDigest :: r))) := by
  have hW : wantW kwDigest = some (false, 1) := by decide
  have HD := hide h
  have HBB := hide hB
  have CU := hide (Ref.cutAt_any 32 32 (by decide) s w (by omega))
  have HC := hide hc
  clear h hc hB
  go_enter Tryz.func8, Tryz.ntmps8
  go_wp2_with (fail)
  refine CU.out.mono ?_
  rintro e w1 ⟨⟨vw, ps, rfl, ho, hps⟩, hb1⟩
  rw [HC.out] at hps
  obtain ⟨p0, pr, rfl, hp0, hpr⟩ := words_split hps
  obtain ⟨gw, cw, rfl, hw1, hw2, _⟩ := own_row1 txtV_len (own_txt ho) (by simp)
  have HW := hide (words_keep (own_txt ho))
  have HB1 := hide hb1
  have HGW := hide (show w.heap.size ≤ gw from ho.block gw rfl)
  have HPR := hide hpr
  have c0 := HW.out _ (Below.refl _ _) 0 p0 rfl
  have hlm : pr.length + 1 ≤ 9223372036854775807 := by
    unfold maxLen at hw2
    simp at hw1
    omega
  have qExtend : (p0.toList == [101, 120, 116, 101, 110, 100]) = false := lst_no (by rw [hp0]; decide)
  have qDigest : (p0.toList == [100, 105, 103, 101, 115, 116]) = true := lst_yes (by rw [hp0]; rfl)
  have qPublic : (p0.toList == [112, 117, 98, 108, 105, 99]) = false := lst_no (by rw [hp0]; decide)
  have qMeasure : (p0.toList == [109, 101, 97, 115, 117, 114, 101]) = false := lst_no (by rw [hp0]; decide)
  have qRaise : (p0.toList == [114, 97, 105, 115, 101]) = false := lst_no (by rw [hp0]; decide)
  have qMay : (p0.toList == [109, 97, 121]) = false := lst_no (by rw [hp0]; decide)
  have qSign : (p0.toList == [115, 105, 103, 110]) = false := lst_no (by rw [hp0]; decide)
  have qCheck : (p0.toList == [99, 104, 101, 99, 107]) = false := lst_no (by rw [hp0]; decide)
  have HSZ : Hid (∀ x ∈ p0 :: pr, x.size ≤ 3000) := word_size hps hs HC.out
  clear hps hpr ho hb1 hw1 hw2 CU HC
  have hlen : (p0 :: pr).length = pr.length + 1 := rfl
  rw [hlen]
  clear hlen
  clear hp0
  by_cases hl : pr.length = 1
  · obtain ⟨p1, rfl⟩ : ∃ p1, pr = [p1] := by
      match pr, hl with
      | [p1], _ => exact ⟨p1, rfl⟩
    clear hl hlm
    simp only [List.map_cons, List.map_nil] at HPR
    have HA : Hid (wordsA d (kwDigest :: r) = match numsL [p1.data.toList] with
      | none => (ansBad, d)
      | some n => doL d kwDigest [] n) := by rw [← HPR.out]; exact words_plain hW rfl
    clear hW HPR
    have hl2 : ((([p1] : List ByteArray).length : Nat) : Int) = 1 := rfl
    go_wp2
    go_loopw [9, 10, 11, 12] (fun s9 s10 _ _ wr => ∃ (i : Nat) (ns : List Nat), 1 ≤ i ∧ i ≤ 2 ∧ s10 = .int .i64 i ∧ Hid (Own wr w1.heap.size 3 s9 (ints ns)) ∧ Hid (Below w1.heap.size w1 wr) ∧ Hid (numsL ([p1.data.toList].take (i - 1)) = some ns)) (fun _ s10 _ _ _ => 2 - (intOf s10).toNat)
    case atStart => exact ⟨1, [], by omega, by omega, rfl, Own.nil _ _ _, Below.refl _ _, rfl⟩
    case round =>
      obtain ⟨i, ns, hi1, hi2, rfl, HO, HB, HN⟩ := hrel
      by_cases hlt : i < 2
      · have hltz : (i : Int) < 2 := by omega
        obtain ⟨px, hpx⟩ : ∃ x, (p0 :: [p1])[i]? = some x := ⟨(p0 :: [p1])[i]'(by show i < 2; exact hlt), List.getElem?_eq_getElem _⟩
        have hpy : [p1.data.toList][i - 1]? = some px.data.toList := by
          match i, hi1, hlt, hpx with
          | 1, _, _, hp => cases hp; rfl
        have cx := HW.out _ HB.out i px hpx
        have hsx : px.size ≤ 140737488351232 := by have := HSZ.out px (List.mem_of_getElem? hpx); omega
        have NU := hide (fun W => Ref.number7_any px W hsx)
        cases hn : numP px.data.toList with
        | none =>
          have HA2 : Hid (wordsA d (kwDigest :: r) = (ansBad, d)) := by rw [HA.out, nums_stop hpy hn]; exact rfl
          rw [(numW_none hn).1, hn] at NU
          simp only [Option.isSome_none] at NU
          clear hpx hpy hn HA
          go_wp2_with (fail)
          refine (NU.out _).mono ?_
          rintro e wz ⟨rfl, hw⟩
          rw [hw]
          clear hw NU
          go_wp2
          go_ret
          exact post_same HD.out (below_on HB1.out HB.out) HA2.out rfl
        | some n =>
          have HN2 := hide (nums_step HN.out hpy hn)
          have HL2 := hide (numsL_len HN.out)
          rw [(numW_some hn).1, hn] at NU
          simp only [Option.isSome_some] at NU
          have HRW := hide (row_new wr (n : Int) 3)
          have hsz := HB.out.size
          have hnl : ns.length ≤ 4 := by rw [HL2.out, List.length_take]; simp; omega
          have hnn : (ints ns).length ≤ 4 := by unfold ints; rw [List.length_map]; exact hnl
          clear hpx hpy hn HA
          go_wp2_with (fail)
          refine (NU.out _).mono ?_
          rintro e wz ⟨rfl, hw⟩
          rw [hw]
          clear hw NU
          go_wp2_with (at_builtin; refine wpList_app rfl _ _ 51 rfl w1.heap.size 3 info_int Tryz.underlying51 _ (ints ns) rfl (HO.out.alloc _) (some ⟨wr.heap.size, 0, none⟩) 1 1 [(n : Int)] rfl rfl (by simp) HRW.out (by simp; omega) (by simp; omega) ?_; intro v2 w2 ho2 hg2)
          have HO2 : Hid (Own w2 w1.heap.size 3 v2 (ints (ns ++ [n]))) := by rw [ints_snoc]; exact ho2
          have HB2 := hide ((HB.out.alloc hsz (.cells #[.int .i64 (n : Int)] 3)).grown hg2 (by simp; omega) (fun k hk => HO.out.block k hk))
          go_roundw
          case rel => exact ⟨i + 1, ns ++ [n], by omega, by omega, by go_num, HO2.out, HB2.out, by rw [show i + 1 - 1 = i - 1 + 1 by omega]; exact HN2.out⟩
          case measure => simp [intOf]; omega
      · have hie : i = 2 := by omega
        subst hie
        have hltz : ¬ ((2 : Nat) : Int) < 2 := by omega
        have hnl := numsL_len HN.out
        have hnb := numsL_lt HN.out
        have HNS : Hid (numsL [p1.data.toList] = some ns) := HN.out
        obtain ⟨n0, rfl⟩ : ∃ n0, ns = [n0] := by
          match ns, hnl with
          | [n0], _ => exact ⟨n0, rfl⟩
        obtain ⟨a9, cap9, hv9, _, hrow⟩ := HO.out.row
        rw [show (ints [n0]).length = 1 from rfl] at hv9
        subst hv9
        have cz := HW.out _ HB.out 0 p0 rfl
        have HR9 := hide hrow
        have HA3 : Hid (wordsA d (kwDigest :: r) = doL d kwDigest [] [n0]) := by rw [HA.out, HNS.out]; exact rfl
        clear HA HN HNS hnl hlt hi1 hi2 hrow
        have hn0 : n0 < 10000000 := hnb n0 (by simp)
        clear hnb
        obtain ⟨b9, o9, rfl, d0⟩ := row_cell (b := 0) HR9.out (i := 0) (y := (n0 : Int)) rfl
        simp only [Nat.add_zero] at d0
        by_cases h255 : n0 ≤ 255
        · have h255z : ¬ (255 : Int) < n0 := by omega
          have hok := HD.out.2.2.2.2
          obtain ⟨b0, b1, b2, b3, b4, b5, b6, b7, hbd⟩ : ∃ b0 b1 b2 b3 b4 b5 b6 b7, d.b = [b0, b1, b2, b3, b4, b5, b6, b7] := bank_split HD.out.2.2.2.1
          have hmk : isMask (n0 : Int) = true := by unfold isMask; rw [decide_eq_true_iff]; omega
          have HA4 : Hid (wordsA d (kwDigest :: r) = (digs (allFrom 0 (pick [b0, b1, b2, b3, b4, b5, b6, b7] (askedL (n0 : Int) 8))), d)) := by
            rw [HA3.out]
            show (if n0 ≤ 255 then (digs (digV d.b (n0 : Int)), d) else (errN 1, d)) = _
            rw [if_pos h255]
            unfold digV
            rw [if_pos ⟨hok, hmk⟩, hbd]
          rw [hbd] at hok
          have hG := (HD.out.below (below_on HB1.out HB.out)).1.1
          rw [hbd] at hG
          have HDC := hide (fun (W : World) (h : Below wr.heap.size wr W) => desk_cells (blk_below hG h))
          have HNC : Hid (∀ W, Below wr.heap.size wr W → W.cell? ⟨b9, o9, none⟩ = some (.int .i64 (n0 : Int))) := fun W h => by rw [h.cell (p := ⟨b9, o9, none⟩) (cell_lt d0)]; exact d0
          have DI := hide (fun W => Ref.digest_ok [b0, b1, b2, b3, b4, b5, b6, b7] (bankC [b0, b1, b2, b3, b4, b5, b6, b7]) (n0 : Int) W rfl rfl hok hmk)
          unfold bankC at DI
          simp only [List.map_cons, List.map_nil] at DI
          have hrg := allFrom_range 0 (pick [b0, b1, b2, b3, b4, b5, b6, b7] (askedL (n0 : Int) 8)) (by omega) (by omega)
          generalize allFrom 0 (pick [b0, b1, b2, b3, b4, b5, b6, b7] (askedL (n0 : Int) 8)) = z at *
          obtain ⟨z, rfl⟩ : ∃ k : Nat, z = k := ⟨z.toNat, by omega⟩
          have DG := hide (fun W => Ref.digits_any z z W (Nat.le_refl _) (by omega))
          have hK : KB wr wr := Below.refl _ _
          obtain ⟨e1, e2, e3, e4, e5, e6, e7, e8⟩ := HDC.out _ hK
          clear hok hmk hrg hG hbd h255
          go_wp2_with (fail)
          go_region_held3 (fun W => W.cell? ⟨b9, o9, none⟩ = some (.int .i64 (n0 : Int)) ∧ (W.cell? ⟨g, 1, none⟩ = some (.int .i64 b0) ∧ W.cell? ⟨g, 2, none⟩ = some (.int .i64 b1) ∧ W.cell? ⟨g, 3, none⟩ = some (.int .i64 b2) ∧ W.cell? ⟨g, 4, none⟩ = some (.int .i64 b3) ∧ W.cell? ⟨g, 5, none⟩ = some (.int .i64 b4) ∧ W.cell? ⟨g, 6, none⟩ = some (.int .i64 b5) ∧ W.cell? ⟨g, 7, none⟩ = some (.int .i64 b6) ∧ W.cell? ⟨g, 8, none⟩ = some (.int .i64 b7)) ∧ KB wr W)
            (exact two_S (by with_reducible repeat (first | assumption | apply kb_drew)) (fun h => And.intro (HNC.out _ h) (HDC.out _ h)))
            (first | (go_at_call 19; refine (DI.out _).mono ?_; rintro e w5 ⟨rfl, hb5⟩; have hK5 : KB wr w5 := kb_below (by with_reducible repeat (first | assumption | apply kb_drew)) hb5; clear hb5; obtain ⟨f1, f2, f3, f4, f5, f6, f7, f8⟩ := HDC.out _ hK5; have f0 := HNC.out _ hK5) | (go_at_call 9; refine (DG.out _).mono ?_; rintro e w6 ⟨rfl, h6⟩; subst h6))
          all_goals
            go_wp2
            go_ret
            exact post_same HD.out (below_on (below_on HB1.out HB.out) (show KB wr _ by with_reducible repeat (first | assumption | apply kb_drew))) HA4.out rfl
        · have h255z : (255 : Int) < n0 := by omega
          have NA := hide (show ∀ W, Calls Tryz.prog 17 #[.int .i64 1] W fun e w' => e = .returned (.string { data := (errN 1).toArray }) ∧ Below W.heap.size W w' from fun W => RunRef.name_any 1 (by omega) W)
          have HA4 : Hid (wordsA d (kwDigest :: r) = (errN 1, d)) := by
            rw [HA3.out]
            show (if n0 ≤ 255 then (digs (digV d.b (n0 : Int)), d) else (errN 1, d)) = _
            rw [if_neg h255]
          go_wp2_with (fail)
          refine (NA.out _).mono ?_
          rintro e w5 ⟨rfl, hb5⟩
          have HB5 := hide (below_on (below_on HB1.out HB.out) hb5)
          clear hb5 NA
          go_wp2
          go_ret
          exact post_same HD.out HB5.out HA4.out rfl
  · have HA : Hid (wordsA d (kwDigest :: r) = (ansBad, d)) := words_count hW (by rw [← HPR.out]; simpa using hl)
    have hlz : ¬ (pr.length : Int) = 1 := by omega
    have hlb : ((pr.length : Int) != 1) = true := bne_iff_ne.2 hlz
    clear hl hW
    go_wp2
    go_ret
    exact post_same HD.out HB1.out HA.out rfl

set_option maxRecDepth 200000 in
set_option maxHeartbeats 8000000 in
theorem line_extend (g : Nat) (v : Value) (cs : List (ByteArray × Int)) (d : Dk) (s : ByteArray) (w : World) (B : Nat) (h : DIs w B g v cs d) (hs : s.size ≤ 3000) (hB : B ≤ w.heap.size) (r : List (List UInt8)) (hc : cutG 32 [] s.data.toList = kwExtend :: r) :
    Calls Tryz.prog 8 #[.pointer (some ⟨g, 0, none⟩), .string s] w (Post w B g v (wordsA d (kwExtend :: r))) := by
  have hW : wantW kwExtend = some (false, 2) := by decide
  have HD := hide h
  have HBB := hide hB
  have CU := hide (Ref.cutAt_any 32 32 (by decide) s w (by omega))
  have HC := hide hc
  clear h hc hB
  go_enter Tryz.func8, Tryz.ntmps8
  go_wp2_with (fail)
  refine CU.out.mono ?_
  rintro e w1 ⟨⟨vw, ps, rfl, ho, hps⟩, hb1⟩
  rw [HC.out] at hps
  obtain ⟨p0, pr, rfl, hp0, hpr⟩ := words_split hps
  obtain ⟨gw, cw, rfl, hw1, hw2, _⟩ := own_row1 txtV_len (own_txt ho) (by simp)
  have HW := hide (words_keep (own_txt ho))
  have HB1 := hide hb1
  have HGW := hide (show w.heap.size ≤ gw from ho.block gw rfl)
  have HPR := hide hpr
  have c0 := HW.out _ (Below.refl _ _) 0 p0 rfl
  have hlm : pr.length + 1 ≤ 9223372036854775807 := by
    unfold maxLen at hw2
    simp at hw1
    omega
  have qExtend : (p0.toList == [101, 120, 116, 101, 110, 100]) = true := lst_yes (by rw [hp0]; rfl)
  have qDigest : (p0.toList == [100, 105, 103, 101, 115, 116]) = false := lst_no (by rw [hp0]; decide)
  have qPublic : (p0.toList == [112, 117, 98, 108, 105, 99]) = false := lst_no (by rw [hp0]; decide)
  have qMeasure : (p0.toList == [109, 101, 97, 115, 117, 114, 101]) = false := lst_no (by rw [hp0]; decide)
  have qRaise : (p0.toList == [114, 97, 105, 115, 101]) = false := lst_no (by rw [hp0]; decide)
  have qMay : (p0.toList == [109, 97, 121]) = false := lst_no (by rw [hp0]; decide)
  have qSign : (p0.toList == [115, 105, 103, 110]) = false := lst_no (by rw [hp0]; decide)
  have qCheck : (p0.toList == [99, 104, 101, 99, 107]) = false := lst_no (by rw [hp0]; decide)
  have HSZ : Hid (∀ x ∈ p0 :: pr, x.size ≤ 3000) := word_size hps hs HC.out
  clear hps hpr ho hb1 hw1 hw2 CU HC
  have hlen : (p0 :: pr).length = pr.length + 1 := rfl
  rw [hlen]
  clear hlen
  clear hp0
  by_cases hl : pr.length = 2
  · obtain ⟨p1, p2, rfl⟩ : ∃ p1 p2, pr = [p1, p2] := by
      match pr, hl with
      | [p1, p2], _ => exact ⟨p1, p2, rfl⟩
    clear hl hlm
    simp only [List.map_cons, List.map_nil] at HPR
    have HA : Hid (wordsA d (kwExtend :: r) = match numsL [p1.data.toList, p2.data.toList] with
      | none => (ansBad, d)
      | some n => doL d kwExtend [] n) := by rw [← HPR.out]; exact words_plain hW rfl
    clear hW HPR
    have hl2 : ((([p1, p2] : List ByteArray).length : Nat) : Int) = 2 := rfl
    go_wp2
    go_loopw [9, 10, 11, 12] (fun s9 s10 _ _ wr => ∃ (i : Nat) (ns : List Nat), 1 ≤ i ∧ i ≤ 3 ∧ s10 = .int .i64 i ∧ Hid (Own wr w1.heap.size 3 s9 (ints ns)) ∧ Hid (Below w1.heap.size w1 wr) ∧ Hid (numsL ([p1.data.toList, p2.data.toList].take (i - 1)) = some ns)) (fun _ s10 _ _ _ => 3 - (intOf s10).toNat)
    case atStart => exact ⟨1, [], by omega, by omega, rfl, Own.nil _ _ _, Below.refl _ _, rfl⟩
    case round =>
      obtain ⟨i, ns, hi1, hi2, rfl, HO, HB, HN⟩ := hrel
      by_cases hlt : i < 3
      · have hltz : (i : Int) < 3 := by omega
        obtain ⟨px, hpx⟩ : ∃ x, (p0 :: [p1, p2])[i]? = some x := ⟨(p0 :: [p1, p2])[i]'(by show i < 3; exact hlt), List.getElem?_eq_getElem _⟩
        have hpy : [p1.data.toList, p2.data.toList][i - 1]? = some px.data.toList := by
          match i, hi1, hlt, hpx with
          | 1, _, _, hp => cases hp; rfl
          | 2, _, _, hp => cases hp; rfl
        have cx := HW.out _ HB.out i px hpx
        have hsx : px.size ≤ 140737488351232 := by have := HSZ.out px (List.mem_of_getElem? hpx); omega
        have NU := hide (fun W => Ref.number7_any px W hsx)
        cases hn : numP px.data.toList with
        | none =>
          have HA2 : Hid (wordsA d (kwExtend :: r) = (ansBad, d)) := by rw [HA.out, nums_stop hpy hn]; exact rfl
          rw [(numW_none hn).1, hn] at NU
          simp only [Option.isSome_none] at NU
          clear hpx hpy hn HA
          go_wp2_with (fail)
          refine (NU.out _).mono ?_
          rintro e wz ⟨rfl, hw⟩
          rw [hw]
          clear hw NU
          go_wp2
          go_ret
          exact post_same HD.out (below_on HB1.out HB.out) HA2.out rfl
        | some n =>
          have HN2 := hide (nums_step HN.out hpy hn)
          have HL2 := hide (numsL_len HN.out)
          rw [(numW_some hn).1, hn] at NU
          simp only [Option.isSome_some] at NU
          have HRW := hide (row_new wr (n : Int) 3)
          have hsz := HB.out.size
          have hnl : ns.length ≤ 4 := by rw [HL2.out, List.length_take]; simp; omega
          have hnn : (ints ns).length ≤ 4 := by unfold ints; rw [List.length_map]; exact hnl
          clear hpx hpy hn HA
          go_wp2_with (fail)
          refine (NU.out _).mono ?_
          rintro e wz ⟨rfl, hw⟩
          rw [hw]
          clear hw NU
          go_wp2_with (at_builtin; refine wpList_app rfl _ _ 51 rfl w1.heap.size 3 info_int Tryz.underlying51 _ (ints ns) rfl (HO.out.alloc _) (some ⟨wr.heap.size, 0, none⟩) 1 1 [(n : Int)] rfl rfl (by simp) HRW.out (by simp; omega) (by simp; omega) ?_; intro v2 w2 ho2 hg2)
          have HO2 : Hid (Own w2 w1.heap.size 3 v2 (ints (ns ++ [n]))) := by rw [ints_snoc]; exact ho2
          have HB2 := hide ((HB.out.alloc hsz (.cells #[.int .i64 (n : Int)] 3)).grown hg2 (by simp; omega) (fun k hk => HO.out.block k hk))
          go_roundw
          case rel => exact ⟨i + 1, ns ++ [n], by omega, by omega, by go_num, HO2.out, HB2.out, by rw [show i + 1 - 1 = i - 1 + 1 by omega]; exact HN2.out⟩
          case measure => simp [intOf]; omega
      · have hie : i = 3 := by omega
        subst hie
        have hltz : ¬ ((3 : Nat) : Int) < 3 := by omega
        have hnl := numsL_len HN.out
        have hnb := numsL_lt HN.out
        have HNS : Hid (numsL [p1.data.toList, p2.data.toList] = some ns) := HN.out
        obtain ⟨n0, n1, rfl⟩ : ∃ n0 n1, ns = [n0, n1] := by
          match ns, hnl with
          | [n0, n1], _ => exact ⟨n0, n1, rfl⟩
        obtain ⟨a9, cap9, hv9, _, hrow⟩ := HO.out.row
        rw [show (ints [n0, n1]).length = 2 from rfl] at hv9
        subst hv9
        have cz := HW.out _ HB.out 0 p0 rfl
        have HR9 := hide hrow
        have HA3 : Hid (wordsA d (kwExtend :: r) = doL d kwExtend [] [n0, n1]) := by rw [HA.out, HNS.out]; exact rfl
        clear HA HN HNS hnl hlt hi1 hi2 hrow
        have hn0 : n0 < 10000000 := hnb n0 (by simp)
        have hn1 : n1 < 10000000 := hnb n1 (by simp)
        clear hnb
        obtain ⟨b9, o9, rfl, d0⟩ := row_cell (b := 0) HR9.out (i := 0) (y := (n0 : Int)) rfl
        obtain ⟨b9', o9', e9, d1⟩ := row_cell (b := 0) HR9.out (i := 1) (y := (n1 : Int)) rfl
        cases e9
        simp only [Nat.add_zero] at d0
        have IS := hide (fun W => Ref.is_any (n1 : Int) W)
        have HDO : Hid (doL d kwExtend [] [n0, n1] = if n0 ≤ 7 ∧ isM (n1 : Int) = true then (digs (stp 7919 (d.b.getD n0 0) (n1 : Int)), { d with b := d.b.set n0 (stp 7919 (d.b.getD n0 0) (n1 : Int)) }) else (errN 1, d)) := rfl
        generalize him : isM (n1 : Int) = im at *
        have HIM := hide him
        clear him
        go_wp2_with (fail)
        refine (IS.out _).mono ?_
        rintro e wz ⟨rfl, hw⟩
        rw [hw]
        clear hw IS
        by_cases h7 : n0 ≤ 7
        · have h7z : ¬ (7 : Int) < n0 := by omega
          have h7b : decide ((7 : Int) < n0) = false := decide_eq_false h7z
          cases im with
          | true =>
            have hlb := HD.out.2.2.2.1
            have hn8 : n0 < d.b.length := by omega
            obtain ⟨x, hx⟩ : ∃ x, d.b[n0]? = some x := ⟨d.b[n0]'(by omega), List.getElem?_eq_getElem (by omega)⟩
            have hxm : isM x = true := okAll_at HD.out.2.2.2.2 hx
            have hgd : d.b.getD n0 0 = x := by rw [List.getD_eq_getElem?_getD, hx]; rfl
            have HA4 : Hid (wordsA d (kwExtend :: r) = (digs (stp 7919 x (n1 : Int)), { d with b := d.b.set n0 (stp 7919 x (n1 : Int)) })) := by rw [HA3.out, HDO.out, if_pos ⟨h7, rfl⟩, hgd]; exact rfl
            have TW := hide (fun W => Ref.two_ok x (n1 : Int) W hxm HIM.out)
            have hz0 := stp_ge 7919 x (n1 : Int)
            have hz1 := stp_lt 7919 x (n1 : Int)
            have HWR := hide (HD.out.below (below_on HB1.out HB.out))
            have HBR := hide (below_on HB1.out HB.out)
            obtain ⟨g0, g1⟩ := desk_at HWR.out hx
            have hzm : isM (stp 7919 x (n1 : Int)) = true := isM_iff.2 ⟨hz0, hz1⟩
            have HPU := hide (desk_put HWR.out hx hzm)
            have hne : b9 ≠ g := by
              have h1 := (CntRef.CIx.has HD.out.1 g (Or.inl rfl)).2
              have h2 := HO.out.block b9 rfl
              have h3 := HB1.out.size
              omega
            generalize stp 7919 x (n1 : Int) = z at *
            obtain ⟨z, rfl⟩ : ∃ k : Nat, z = k := ⟨z.toNat, by omega⟩
            have DG := hide (fun W => Ref.digits_any z z W (Nat.le_refl _) (by omega))
            have HZ1 := hide hz1
            clear hlb hx hxm hgd HDO HA3 hn0 hn1 hz0 hz1 hzm h7
            have G0 := hide g0
            have G1 := hide g1
            have HNE := hide hne
            have HN8 := hide hn8
            have D1 := hide d1
            clear g0 g1 hne hn8 d1
            go_wp2_with (fail)
            have g0 := G0.out
            have g1 := G1.out
            have hne := HNE.out
            have hn8 := HN8.out
            have d1 := D1.out
            have h8 : n0 < 8 := by omega
            have h8z : (n0 : Int) < 8 := by omega
            clear h7z h7b
            go_cut [] (fun w' => Hid (EP wr B g v cs { d with b := d.b.set n0 (z : Int) } w'))
            case first =>
              go_region_with (first | (go_at_call 18; refine (TW.out _).mono ?_; rintro e w6 ⟨rfl, hw6⟩; rw [hw6]; clear hw6))
              all_goals
                go_wp2
                go_meet
                simp only [ep_drew]
                exact HPU.out
            case rest =>
            have HE := hide (Hid.out hcut)
            clear hcut HPU TW g0 g1
            have hx2 : (d.b.set n0 (z : Int))[n0]? = some (z : Int) := List.getElem?_set_self hn8
            obtain ⟨g2, _⟩ := desk_at HE.out.1 hx2
            have d2 := only_cell HE.out.2 (cell_lt d0) hne d0
            have HF := hide (show DIs wc B g v cs { d with b := d.b.set n0 (z : Int) } ∧ Only (CntRef.cfoot g v) w wc from ⟨HE.out.1, (Only.of_below HBR.out).trans HE.out.2 (fun k _ hk => Or.inl hk)⟩)
            go_upto_region 42 with (fail)
            go_quiet (first | (go_at_call 9; exact Calls.quiet_of_same (DG.out _)))
            go_wp2
            go_ret
            refine ⟨v, cs, by rw [HA4.out]; rfl, ?_, ?_, fun b hb => Or.inl hb⟩
            · rw [HA4.out]
              exact HF.out.1.below (quiet_dr _ _)
            · exact HF.out.2.after (quiet_dr _ _)
          | false =>
            have NA := hide (show ∀ W, Calls Tryz.prog 17 #[.int .i64 1] W fun e w' => e = .returned (.string { data := (errN 1).toArray }) ∧ Below W.heap.size W w' from fun W => RunRef.name_any 1 (by omega) W)
            have HA4 : Hid (wordsA d (kwExtend :: r) = (errN 1, d)) := by rw [HA3.out, HDO.out, if_neg (by simp)]; exact rfl
            go_wp2_with (fail)
            refine (NA.out _).mono ?_
            rintro e w5 ⟨rfl, hb5⟩
            have HB5 := hide (below_on (below_on HB1.out HB.out) hb5)
            clear hb5 NA
            go_wp2
            go_ret
            exact post_same HD.out HB5.out HA4.out rfl
        · have h7z : (7 : Int) < n0 := by omega
          have h7b : decide ((7 : Int) < n0) = true := decide_eq_true h7z
          have NA := hide (show ∀ W, Calls Tryz.prog 17 #[.int .i64 1] W fun e w' => e = .returned (.string { data := (errN 1).toArray }) ∧ Below W.heap.size W w' from fun W => RunRef.name_any 1 (by omega) W)
          have HA4 : Hid (wordsA d (kwExtend :: r) = (errN 1, d)) := by rw [HA3.out, HDO.out, if_neg (fun hc => h7 hc.1)]; exact rfl
          go_wp2_with (fail)
          refine (NA.out _).mono ?_
          rintro e w5 ⟨rfl, hb5⟩
          have HB5 := hide (below_on (below_on HB1.out HB.out) hb5)
          clear hb5 NA
          go_wp2
          go_ret
          exact post_same HD.out HB5.out HA4.out rfl
  · have HA : Hid (wordsA d (kwExtend :: r) = (ansBad, d)) := words_count hW (by rw [← HPR.out]; simpa using hl)
    have hlz : ¬ (pr.length : Int) = 2 := by omega
    have hlb : ((pr.length : Int) != 2) = true := bne_iff_ne.2 hlz
    clear hl hW
    go_wp2
    go_ret
    exact post_same HD.out HB1.out HA.out rfl
end Go.Proofs.YtjkcplpmhjnahaaGreatDoor.Desk
