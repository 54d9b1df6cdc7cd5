/-
  The walk of stairlaw1.NonceOnce: it returns true, and memory that was there stays as it was.
-/
import Derived.Test.YtbmcmigeohcnlaaDoorNonTri
import Derived.Test.YtbmcmigeohcnlaaDoorAs
import Derived.Deep.DeepCutAuto
namespace Go.Proofs.YtbmcmigeohcnlaaDoor.NonceOnce
open Go.ChangeShapes Go.WideShapes Go.ChangeAt Go.RowKit
open Go.Proofs.YtbmcmigeohcnlaaDoor.M Go.Proofs.YtbmcmigeohcnlaaDoor.Nonce
set_option linter.unusedVariables false

theorem own_at {w : World} {base n cap k : Nat} {e : TypeId} {a : Option Addr} {xs : List Int} {y : Int} (h : Own w base e (.slice a n cap) xs) (hx : xs[k]? = some y) : ∃ b off, a = some ⟨b, off, none⟩ ∧ w.cell? ⟨b, off + k, none⟩ = some (.int .i64 y) := by
  obtain ⟨a', cap', hv, _, hr⟩ := h.row
  cases hv
  rcases hr with h | ⟨b, off, h1, h2⟩
  · rw [h] at hx; simp at hx
  · exact ⟨b, off, h1, h2 k y hx⟩
theorem erase_one : [stp 7919 1 0].erase (stp 7919 1 0) = [] := by simp

set_option maxRecDepth 20000 in
set_option maxHeartbeats 8000000 in
theorem walk (UN : UseNo) (UO : UseOk) (s m x : Int) (w : World) (hg : As.Handle w) :
    Calls Tryd.prog 3 #[.int .i64 s, .int .i64 m, .int .i64 x] w fun e w' => e = .returned (.bool true) ∧ Below w.heap.size w w' := by
  have HH := hide (fun (W : World) (h : Below w.heap.size w W) => hg.below h)
  have HUN := hide UN
  have HUO := hide UO
  have e7 : stp 7919 1 0 = 7920 := by decide
  clear hg UN UO
  go_enter Tryd.func3, Tryd.ntmps3
  go_wp2_with (fail)
  refine (new_ok 1 w w.heap.size (by decide) (Nat.le_refl _)).mono ?_
  rintro e w1 ⟨p0, S0, rfl, hn1, _, hb1⟩
  have HN1 := hide hn1
  have HB1 := hide hb1
  clear hn1 hb1
  go_wp2_with (fail)
  refine (issue_ok p0 S0 1 0 [] _ w.heap.size HN1.out (by decide) (by decide) HB1.out.size).mono ?_
  rintro e w2 ⟨S1, rfl, hn2, ho2, _⟩
  have HB2 := hide (HB1.out.trans (ho2.below HB1.out.size (fun k hk => (HN1.out.has k hk).1)))
  rw [e7, List.nil_append] at hn2
  rw [e7]
  have HN2 := hide hn2
  clear hn2 ho2 HN1 HB1 e7
  go_wp2_with (fail)
  refine (HUO.out p0 S1 _ _ _ 7920 _ w.heap.size HN2.out (by decide) (by decide) HB2.out.size).mono ?_
  rintro e w3 ⟨S3, rfl, hn3, ho3, _⟩
  have HB3 := hide (HB2.out.trans (ho3.below HB2.out.size (fun k hk => (HN2.out.has k hk).1)))
  have HN3 := hide hn3
  clear hn3 ho3 HN2 HB2
  go_wp2_with (fail)
  refine (HUN.out p0 S3 _ _ _ 7920 _ w.heap.size HN3.out (by decide) (by decide)).mono ?_
  rintro e w4 ⟨rfl, hb4⟩
  have HB4 := hide (HB3.out.trans (hb4.mono HB3.out.size))
  clear hb4 HN3 HB3
  go_wp2_with (fail)
  refine (As.same_err 5 5 _ (HH.out _ HB4.out)).mono ?_
  rintro e w5 ⟨rfl, hb5⟩
  have HB5 := hide (HB4.out.trans (hb5.mono HB4.out.size))
  clear hb5 HB4
  cases hs : isM s with
  | false =>
    have NO := hide (fun W => new_no s W hs)
    clear hs
    go_wp2_with (fail)
    refine (NO.out _).mono ?_
    rintro e w6 ⟨rfl, hb6⟩
    have HB6 := hide (HB5.out.trans (hb6.mono HB5.out.size))
    clear hb6 HB5
    go_wp2_with (fail)
    refine (NO.out _).mono ?_
    rintro e w7 ⟨rfl, hb7⟩
    have HB7 := hide (HB6.out.trans (hb7.mono HB6.out.size))
    clear hb7 HB6
    go_wp2
    go_ret
    exact ⟨rfl, HB7.out⟩
  | true =>
    have NW := hide (fun W h => new_ok s W w.heap.size hs h)
    clear hs
    go_wp2_with (fail)
    refine (NW.out _ HB5.out.size).mono ?_
    rintro e w6 ⟨p, Sn, rfl, hn6, hf6, hb6⟩
    have HB6 := hide (HB5.out.trans (hb6.mono HB5.out.size))
    have HN6 := hide hn6
    clear hn6 hf6 hb6 HB5
    go_wp2_with (fail)
    refine (NW.out _ HB6.out.size).mono ?_
    rintro e w7 ⟨q, Sm, rfl, hm7, hf7, hb7⟩
    have HT7 : Hid (Tri w w.heap.size p q (.slice none 0 0) Sn Sm (lastN s 0) ((0 : Nat) : Int) (listN s 0) (lastN s 0) ((0 : Nat) : Int) (listN s 0) (listN s 0) w7) :=
      ⟨HN6.out.below hb7, hm7, Own.nil _ _ _, (fun k hk hm => by have h1 := (HN6.out.has k hk).2; have h2 := hf7 k hm; omega), (fun k hk => by cases hk), (fun k hk => by cases hk), HB6.out.trans (hb7.mono HB6.out.size), Nat.le_trans HB6.out.size hb7.size⟩
    clear hm7 hf7 hb7 HB6 HN6 NW
    go_upto_region 11 with (fail)
    go_cut [77, 78, 80, 81] (fun _ _ _ s81 w' => s81 = .bool (decide (m < 0 ∨ 8 < m)) ∧ w' = w7)
    case first =>
      by_cases h0 : m < 0
      · have hd : decide (m < 0 ∨ 8 < m) = true := decide_eq_true (Or.inl h0)
        have HDD := hide hd
        clear hd
        go_wp2
        go_meet
        exact ⟨by rw [HDD.out], rfl⟩
      · by_cases h8 : 8 < m
        · have HDD := hide (show decide (m < 0 ∨ 8 < m) = true from decide_eq_true (Or.inr h8))
          go_wp2
          go_meet
          exact ⟨by rw [HDD.out], rfl⟩
        · have HDD := hide (show decide (m < 0 ∨ 8 < m) = false from decide_eq_false (by omega))
          go_wp2
          go_meet
          exact ⟨by rw [HDD.out], rfl⟩
    case rest =>
    obtain ⟨rfl, rfl⟩ := hcut
    go_upto_if 81 with (fail)
    go_cut [1, 81] (fun s1 _ w' => (∃ M : Nat, s1 = .int .i64 M ∧ M ≤ 8) ∧ w' = wc)
    case first =>
      cases hd : decide (m < 0 ∨ 8 < m) with
      | true =>
        clear hd
        go_wp2
        go_meet
        exact ⟨⟨8, rfl, by omega⟩, rfl⟩
      | false =>
        have hr := of_decide_eq_false hd
        clear hd
        obtain ⟨M, rfl⟩ : ∃ M : Nat, m = M := ⟨m.toNat, by omega⟩
        have h8 : M ≤ 8 := by omega
        clear hr
        go_wp2
        go_meet
        exact ⟨⟨M, rfl, h8⟩, rfl⟩
    case rest =>
    obtain ⟨⟨M, rfl, hM⟩, rfl⟩ := hcut
    go_wp2
    go_loopw [14, 15, 16, 17, 18, 19] (fun s14 s15 _ _ _ _ wr => ∃ (i : Nat) (v : Value) (Sn Sm : Nat → Prop), i ≤ M ∧ v = s14 ∧ s15 = .int .i64 i ∧ Hid (Tri w w.heap.size p q v Sn Sm (lastN s i) (i : Int) (listN s i) (lastN s i) (i : Int) (listN s i) (listN s i) wr)) (fun _ s15 _ _ _ _ _ => M - (intOf s15).toNat)
    case atStart => exact ⟨0, _, Sn, Sm, by omega, rfl, rfl, HT7.out⟩
    case round =>
      obtain ⟨i, v, Sn, Sm, hi, rfl, rfl, HT⟩ := hrel
      clear HT7
      by_cases hlt : i < M
      · have hlz : (i : Int) < M := by omega
        have HLEN := hide (listN_len s i)
        go_wp2_with (fail)
        refine (issue_ok p Sn _ _ _ _ w.heap.size HT.out.n (by rw [HLEN.out]; omega) (by omega) HT.out.hb).mono ?_
        rintro e w2 ⟨S2, rfl, hn2, ho2, hf2⟩
        have HT2 := hide (HT.out.stepN hn2 ho2 hf2)
        clear hn2 ho2 hf2
        go_wp2_with (fail)
        refine (issue_ok q Sm _ _ _ _ w.heap.size HT2.out.m (by rw [HLEN.out]; omega) (by omega) HT2.out.hb).mono ?_
        rintro e w3 ⟨S3, rfl, hn3, ho3, hf3⟩
        have HT3 := hide (HT2.out.stepM hn3 ho3 hf3)
        clear hn3 ho3 hf3 HT2 HT
        have HNX := hide (show stp 7919 (lastN s i) i = lastN s (i + 1) from rfl)
        have HLS := hide (show listN s i ++ [lastN s (i + 1)] = listN s (i + 1) from rfl)
        have HCS := hide (show (i : Int) + 1 = ((i + 1 : Nat) : Int) by omega)
        rw [HNX.out, HLS.out, HCS.out] at HT3
        rw [HNX.out]
        have hsz3 := HT3.out.hb
        have HT4 := hide (HT3.out.below (below_new w3 (.cells #[.int .i64 (lastN s (i + 1))] 3)))
        generalize hnx : lastN s (i + 1) = nx at *
        have HNY := hide hnx
        clear hnx
        go_wp2_with (at_builtin; refine wpList_appAt rfl _ _ 31 rfl w.heap.size 3 Bank.info_int Tryd.underlying31 v (listN s i) rfl HT4.out.l (some ⟨w3.heap.size, 0, none⟩) 1 1 [nx] rfl rfl (fun h => by cases h) (Row.one _ _ _ (by simp)) (by rw [HLEN.out]; simp; omega) HT4.out.hb ?_; intro v' w5 ho5 hg5 hat5)
        have HT5 := hide (HT4.out.stepL ho5 hg5 hat5)
        rw [HLS.out, ← HNY.out] at HT5
        clear ho5 hg5 hat5 HT4 HT3
        go_roundw
        case rel => exact ⟨i + 1, v', S2, S3, by omega, rfl, by go_num, HT5.out⟩
        case measure => simp [intOf]; omega
      · have e1 : i = M := by omega
        subst e1
        have hlz : ¬ (i : Int) < i := by omega
        have HLEN := hide (listN_len s i)
        obtain ⟨a, cap, hv, _, _⟩ := HT.out.l.row
        rw [HLEN.out] at hv
        subst hv
        generalize listN s i = L at *
        generalize lastN s i = la at *
        obtain ⟨wa, hwa⟩ : ∃ wa, wa = wr := ⟨_, rfl⟩
        subst hwa
        go_wp2
        go_loopw [20, 21] (fun s20 s21 w6 => ∃ (k t : Nat), k ≤ i ∧ s21 = .int .i64 k ∧ s20 = .int .i64 t ∧ Hid (t = (L.take k).count x) ∧ t ≤ k ∧ w6 = wa) (fun _ s21 _ => i - (intOf s21).toNat)
        case atStart => exact ⟨0, 0, by omega, rfl, rfl, (by show (0 : Nat) = (L.take 0).count x; simp), by omega, rfl⟩
        case round =>
          obtain ⟨k, t, hk, rfl, rfl, HC, htk, rfl⟩ := hrel
          by_cases hlt2 : k < i
          · have hlz2 : (k : Int) < i := by omega
            obtain ⟨y, hy⟩ : ∃ y, L[k]? = some y := ⟨L[k]'(by have := HLEN.out; omega), List.getElem?_eq_getElem (by have := HLEN.out; omega)⟩
            obtain ⟨b, off, rfl, hcell⟩ := own_at HT.out.l hy
            have HCT := hide (count_take (x := x) hy)
            clear hy
            by_cases hyx : y = x
            · subst hyx
              have HC2 := hide (show t + 1 = (L.take (k + 1)).count y by rw [HCT.out, ← HC.out, if_pos rfl])
              clear HCT
              go_wp2
              go_roundw
              case rel => exact ⟨k + 1, t + 1, by omega, by go_num, by go_num, HC2.out, by omega, by trivial⟩
              case measure => simp [intOf]; omega
            · have HC2 := hide (show t = (L.take (k + 1)).count x by rw [HCT.out, ← HC.out, if_neg hyx]; omega)
              clear HCT
              go_wp2
              go_roundw
              case rel => exact ⟨k + 1, t, by omega, by go_num, rfl, HC2.out, by omega, by trivial⟩
              case measure => simp [intOf]; omega
          · have e2 : k = i := by omega
            subst e2
            have hlz2 : ¬ (k : Int) < k := by omega
            have HCN := hide (show t = L.count x by rw [HC.out, List.take_of_length_le (by rw [HLEN.out]; exact Nat.le_refl _)])
            clear HC
            obtain ⟨wb, hwb⟩ : ∃ wb, wb = wr := ⟨_, rfl⟩
            subst hwb
            go_wp2
            go_loopw [22] (fun s22 w8 => ∃ (j : Nat) (S : Nat → Prop), j ≤ t ∧ s22 = .int .i64 j ∧ Hid (Tri w w.heap.size p q (.slice a k cap) S Sm la (k : Int) (usedN x j L) la (k : Int) L L w8)) (fun s22 _ => t - (intOf s22).toNat)
            case atStart => exact ⟨0, Sn, by omega, rfl, HT.out⟩
            case round =>
              obtain ⟨j, S, hj, rfl, HU⟩ := hrel
              have HLE := hide (show (usedN x j L).length ≤ 30 from Nat.le_trans (usedN_le (by rw [← HCN.out]; exact hj)) (by rw [HLEN.out]; omega))
              by_cases hlt3 : j < t
              · have hlz3 : (j : Int) < t := by omega
                have HIN := hide (usedN_in (x := x) (xs := L) (j := j) (by rw [← HCN.out]; exact hlt3))
                go_wp2_with (fail)
                refine (HUO.out p S _ _ _ x _ w.heap.size HU.out.n HLE.out HIN.out HU.out.hb).mono ?_
                rintro e w9 ⟨S9, rfl, hn9, ho9, hf9⟩
                have HU9 := hide (HU.out.stepN hn9 ho9 hf9)
                clear hn9 ho9 hf9
                go_wp2
                go_roundw
                case rel => exact ⟨j + 1, S9, by omega, by go_num, HU9.out⟩
                case measure => simp [intOf]; omega
              · have e3 : j = t := by omega
                subst e3
                have hlz3 : ¬ (j : Int) < j := by omega
                have HOUT := hide (show x ∉ usedN x j L by rw [HCN.out]; exact usedN_out)
                have HLN := hide (show ((usedN x j L).length : Int) = (k : Int) - (j : Int) by rw [(usedN_count x L j (by rw [← HCN.out]; exact Nat.le_refl _)).2, HLEN.out]; omega)
                go_wp2_with (fail)
                refine (HUN.out p S _ _ _ x _ w.heap.size HU.out.n HLE.out HOUT.out).mono ?_
                rintro e w9 ⟨rfl, hb9⟩
                have HU9 := hide (HU.out.below hb9)
                clear hb9 HU
                go_wp2_with (fail)
                refine (As.same_err 5 5 _ (HH.out _ HU9.out.lo)).mono ?_
                rintro e wA ⟨rfl, hbA⟩
                have HUA := hide (HU9.out.below hbA)
                clear hbA HU9
                have OPN := hide (open_any p S _ _ _ _ w.heap.size HUA.out.n)
                rw [HLN.out] at OPN
                go_wp2_with (fail)
                refine OPN.out.mono ?_
                rintro e wB ⟨rfl, hbB⟩
                have HUB := hide (HUA.out.below hbB)
                clear hbB HUA OPN
                go_wp2
                go_loopw [23] (fun s23 w8 => ∃ (i : Nat) (T : Nat → Prop), i ≤ k ∧ s23 = .int .i64 i ∧ Hid (Tri w w.heap.size p q (.slice a k cap) S T la (k : Int) (usedN x j L) la (k : Int) (L.drop i) L w8)) (fun s23 _ => k - (intOf s23).toNat)
                case atStart => exact ⟨0, Sm, by omega, rfl, HUB.out⟩
                case round =>
                  obtain ⟨i, T, hi, rfl, HV⟩ := hrel
                  by_cases hlt4 : i < k
                  · have hlz4 : (i : Int) < k := by omega
                    obtain ⟨y, hy⟩ : ∃ y, L[i]? = some y := ⟨L[i]'(by have := HLEN.out; omega), List.getElem?_eq_getElem (by have := HLEN.out; omega)⟩
                    obtain ⟨b, off, rfl, hcell⟩ := own_at HV.out.l hy
                    have HED := hide (erase_drop hy)
                    have HMD := hide (mem_drop hy)
                    have HLD := hide (show (L.drop i).length ≤ 30 by rw [List.length_drop, HLEN.out]; omega)
                    clear hy
                    go_wp2_with (fail)
                    refine (HUO.out q T _ _ _ y _ w.heap.size HV.out.m HLD.out HMD.out HV.out.hb).mono ?_
                    rintro e wC ⟨S9, rfl, hn9, ho9, hf9⟩
                    have HVC := hide (HV.out.stepM hn9 ho9 hf9)
                    rw [HED.out] at HVC
                    clear hn9 ho9 hf9
                    go_wp2
                    go_roundw
                    case rel => exact ⟨i + 1, S9, by omega, by go_num, HVC.out⟩
                    case measure => simp [intOf]; omega
                  · have hlz4 : ¬ (i : Int) < k := by omega
                    have OPM := hide (open_any q T _ _ _ _ w.heap.size HV.out.m)
                    rw [show (L.drop i).length = 0 by rw [List.length_drop, HLEN.out]; omega] at OPM
                    go_wp2_with (fail)
                    refine OPM.out.mono ?_
                    rintro e wC ⟨rfl, hbC⟩
                    have HVC := hide (HV.out.below hbC)
                    clear hbC
                    go_wp2
                    go_ret
                    exact ⟨rfl, HVC.out.lo⟩
end Go.Proofs.YtbmcmigeohcnlaaDoor.NonceOnce
