/-
  Contracts of what package stairref1 says on images (Letters, Image, Digits, Line, Number): each returns what the plain mathematics says, and memory that was there stays as it was.
-/
import Derived.Test.YtdbpeikijonjmaaDoorImg4
import Derived.Test.YtdbpeikijonjmaaDoorRef1
import Derived.Deep.DeepCutAuto
namespace Go.Proofs.YtdbpeikijonjmaaDoor.M
theorem let_take {l : List UInt8} {k : Nat} {b : UInt8} (h : l[k]? = some b) : (l.take (k + 1)).all letB = ((l.take k).all letB && letB b) := by
  rw [List.take_add_one, h]
  simp
theorem let_no {l : List UInt8} {k : Nat} {b : UInt8} (h : l[k]? = some b) (hb : letB b = false) : l.all letB = false := by
  apply Bool.eq_false_iff.2
  intro e
  have := List.all_eq_true.1 e b (List.mem_of_getElem? h)
  rw [hb] at this
  cases this
theorem dec_lt_len {l : List UInt8} {k acc n : Nat} (h : Lib.decFrom acc (l.take k) = some n) : n < (acc + 1) * 10 ^ (l.take k).length := Lib.decFrom_lt _ _ _ h
theorem dec_stop {l : List UInt8} {k : Nat} {b : UInt8} (h : l[k]? = some b) (hb : Lib.digitVal b = none) : ∀ acc, Lib.decFrom acc l = none := by
  induction l generalizing k with
  | nil => simp at h
  | cons c r ih =>
    intro acc
    simp only [Lib.decFrom]
    cases k with
    | zero =>
      simp at h
      subst h
      rw [hb]
    | succ k =>
      cases hc : Lib.digitVal c with
      | none => rfl
      | some d => exact ih (by simpa using h) _
end Go.Proofs.YtdbpeikijonjmaaDoor.M
namespace Go.Proofs.YtdbpeikijonjmaaDoor.Ref
open Go.ChangeShapes Go.WideShapes Go.ChangeAt Go.RowKit
open Go.Proofs.YtdbpeikijonjmaaDoor.M Go.Proofs.YtdbpeikijonjmaaDoor.Image
set_option linter.unusedVariables false

theorem at_some {s : ByteArray} {k : Nat} (h : k < s.size) : s.data.toList[k]? = some s[k] := by
  rw [List.getElem?_eq_getElem (by simpa using h)]; rfl

set_option maxHeartbeats 2000000 in
theorem letters_any (s : ByteArray) (w : World) (hs : s.size ≤ 140737488351232) :
    Calls Tryd.prog 16 #[.string s] w fun e w' => e = .returned (.bool (letS s)) ∧ w' = w := by
  go_enter Tryd.func16, Tryd.ntmps16
  go_wp2
  go_loop [3] (fun i => ∃ k : Nat, k ≤ s.size ∧ i = .int .i64 k ∧ Hid ((s.data.toList.take k).all letB = true)) (fun i => s.size - (intOf i).toNat)
  case atStart => exact ⟨0, by omega, rfl, rfl⟩
  case round =>
    obtain ⟨k, hk, rfl, HL⟩ := hrel
    by_cases hlt : k < s.size
    · have HX : Hid (s.data.toList[k]? = some s[k]) := at_some hlt
      by_cases h1 : (s[k]).toNat < 97
      · have h1z : ((s[k]).toNat : Int) < 97 := by omega
        have E := hide (show letS s = false from let_no HX.out (by unfold letB; simp; omega))
        clear h1
        go_wp2
        go_ret
        exact ⟨by rw [E.out]; rfl, rfl⟩
      · have h1z : ¬ ((s[k]).toNat : Int) < 97 := by omega
        by_cases h2 : 122 < (s[k]).toNat
        · have h2z : (122 : Int) < ((s[k]).toNat : Int) := by omega
          have E := hide (show letS s = false from let_no HX.out (by unfold letB; simp; omega))
          clear h1 h2
          go_wp2
          go_ret
          exact ⟨by rw [E.out]; rfl, rfl⟩
        · have h2z : ¬ (122 : Int) < ((s[k]).toNat : Int) := by omega
          have E := hide (show letB s[k] = true by unfold letB; simp; omega)
          clear h1 h2
          go_wp2
          go_round
          case rel => exact ⟨k + 1, by omega, by go_num, by show (s.data.toList.take (k + 1)).all letB = true; rw [let_take HX.out, HL.out, E.out]; rfl⟩
          case measure => simp [intOf]; omega
    · have E := hide (show letS s = true by
        have := HL.out
        rw [List.take_of_length_le (by rw [len_size]; omega)] at this
        exact this)
      go_wp2
      go_ret
      exact ⟨by rw [E.out]; rfl, rfl⟩

theorem digit_text : ∀ d : Fin 10, (ByteArray.extract { data := #[48, 49, 50, 51, 52, 53, 54, 55, 56, 57] } d.val (d.val + 1)) = { data := #[UInt8.ofNat (48 + d.val)] } := by decide +kernel
theorem append_text (l r : List UInt8) : ({ data := l.toArray } : ByteArray) ++ { data := r.toArray } = { data := (l ++ r).toArray } := by
  apply byte_ext
  simp [ByteArray.data_append]

set_option maxHeartbeats 2000000 in
theorem digits_any : ∀ (f n : Nat) (w : World), n ≤ f → n ≤ 2000000 → Calls Tryd.prog 20 #[.int .i64 n] w fun e w' => e = .returned (.string { data := (Lib.decDigits n).toArray }) ∧ w' = w
  | f, n, w, hf, hm => by
    by_cases h : n < 10
    · have E := hide (show ByteArray.extract { data := #[48, 49, 50, 51, 52, 53, 54, 55, 56, 57] } n (n + 1) = { data := (Lib.decDigits n).toArray } by rw [digit_text ⟨n, h⟩, dec_small h])
      have hz : (n : Int) < 10 := by omega
      have c1 : (0 : Int) ≤ n := by omega
      have c2 : (n : Int) ≤ n + 1 := by omega
      have c3 : (n : Int) + 1 ≤ 10 := by omega
      go_enter Tryd.func20, Tryd.ntmps20
      go_wp2
      go_ret
      exact ⟨by rw [← E.out]; rfl, rfl⟩
    · cases f with
      | zero => omega
      | succ f =>
        have IH := digits_any f (n / 10) w (by omega) (by omega)
        obtain ⟨d, hdd⟩ : ∃ d, n % 10 = d := ⟨_, rfl⟩
        have hd : d < 10 := by omega
        have E := hide (show ({ data := (Lib.decDigits (n / 10)).toArray } : ByteArray) ++ ByteArray.extract { data := #[48, 49, 50, 51, 52, 53, 54, 55, 56, 57] } d (d + 1) = { data := (Lib.decDigits n).toArray } by rw [digit_text ⟨d, hd⟩, dec_big h, hdd]; exact append_text _ _)
        have hz : ¬ (n : Int) < 10 := by omega
        have hq : (n : Int) / 10 = ((n / 10 : Nat) : Int) := by omega
        have hr : (n : Int) % 10 = (d : Int) := by omega
        have hl : (Lib.decDigits (n / 10)).length ≤ 7 := dec_len 6 _ (by omega)
        have q1 : ¬ 9223372036854775807 < (Lib.decDigits (n / 10)).length + 1 := by omega
        have HQ := hide hq
        have HR := hide hr
        clear hdd hq hr
        have c1 : (0 : Int) ≤ d := by omega
        have c2 : (d : Int) ≤ d + 1 := by omega
        have c3 : (d : Int) + 1 ≤ 10 := by omega
        go_enter Tryd.func20, Tryd.ntmps20
        go_wp2_with (fail)
        rw [HQ.out, HR.out]
        refine IH.mono ?_
        rintro e w1 ⟨rfl, rfl⟩
        have hs1 : (ByteArray.extract { data := #[48, 49, 50, 51, 52, 53, 54, 55, 56, 57] } d (d + 1)).size = 1 := by rw [digit_text ⟨d, hd⟩]; rfl
        go_wp2
        go_ret
        exact ⟨by rw [← E.out]; rfl, rfl⟩

set_option maxHeartbeats 4000000 in
theorem image_any (nm cd : ByteArray) (v : Int) (w : World) (hn : nm.size ≤ 140737488351232) (hc : cd.size ≤ 140737488351232) :
    Calls Tryd.prog 6 #[.agg (imgC nm v cd)] w fun e w' => e = .returned (.int .i64 (imgE nm v cd)) ∧ Below w.heap.size w w' := by
  have HB := hide (below_new w (.cells (imgC nm v cd) 23))
  unfold imgC at HB ⊢
  go_enter Tryd.func6, Tryd.ntmps6
  go_wp2_with (fail)
  refine (letters_any nm _ hn).mono ?_
  rintro e w1 ⟨rfl, rfl⟩
  go_wp2_with (fail)
  refine (letters_any cd _ hc).mono ?_
  rintro e w1 ⟨rfl, rfl⟩
  by_cases h0 : nm.size = 0
  · have E := hide (imgE_shape (nm := nm) (cd := cd) (v := v) (Or.inl h0))
    have h1 := empty_is h0
    clear h0
    go_wp2
    go_ret
    exact ⟨by rw [E.out]; rfl, HB.out⟩
  · have h1 := empty_not h0
    have H0 := hide h0
    clear h0
    cases ha : letS nm with
    | false =>
      have E := hide (imgE_shape (nm := nm) (cd := cd) (v := v) (Or.inr (Or.inl ha)))
      clear ha
      go_wp2
      go_ret
      exact ⟨by rw [E.out]; rfl, HB.out⟩
    | true =>
      have HA := hide ha
      clear ha
      cases hb : letS cd with
      | false =>
        have E := hide (imgE_shape (nm := nm) (cd := cd) (v := v) (Or.inr (Or.inr hb)))
        clear hb
        go_wp2
        go_ret
        exact ⟨by rw [E.out]; rfl, HB.out⟩
      | true =>
        have HC := hide hb
        clear hb
        by_cases h8 : 8 < nm.size
        · have E := hide (imgE_full (v := v) H0.out HA.out HC.out (Or.inl h8))
          have h8' : (8 : Int) < nm.size := by omega
          clear h8
          go_wp2
          go_ret
          exact ⟨by rw [E.out]; rfl, HB.out⟩
        · have h8' : ¬ (8 : Int) < nm.size := by omega
          by_cases h9 : 8 < cd.size
          · have E := hide (imgE_full (v := v) H0.out HA.out HC.out (Or.inr h9))
            have h9' : (8 : Int) < cd.size := by omega
            clear h8 h9
            go_wp2
            go_ret
            exact ⟨by rw [E.out]; rfl, HB.out⟩
          · have h9' : ¬ (8 : Int) < cd.size := by omega
            have HF := hide (show ¬ (8 < nm.size ∨ 8 < cd.size) by omega)
            clear h8 h9
            by_cases hv : v < 1
            · have E := hide (imgE_range H0.out HA.out HC.out HF.out (Or.inl hv))
              go_wp2
              go_ret
              exact ⟨by rw [E.out]; rfl, HB.out⟩
            · by_cases hv2 : 1000 < v
              · have E := hide (imgE_range H0.out HA.out HC.out HF.out (Or.inr hv2))
                go_wp2
                go_ret
                exact ⟨by rw [E.out]; rfl, HB.out⟩
              · have E := hide (imgE_none (v := v) H0.out HA.out HC.out HF.out (by omega))
                go_wp2
                go_ret
                exact ⟨by rw [E.out]; rfl, HB.out⟩

set_option maxHeartbeats 4000000 in
theorem line_ok (nm cd : ByteArray) (v : Int) (w : World) (h : imgE nm v cd = 0) :
    Calls Tryd.prog 9 #[.agg (imgC nm v cd)] w fun e w' => e = .returned (.string (lineB nm v cd)) ∧ Below w.heap.size w w' := by
  have HB := hide (below_new w (.cells (imgC nm v cd) 23))
  obtain ⟨z1, z2, z3, z4, z5, z6, z7⟩ := imgE_zero h
  have hD := itoa_four z6 z7
  obtain ⟨n, rfl⟩ : ∃ n : Nat, v = n := ⟨v.toNat, by omega⟩
  have HI := hide (fun W => digits_any n n W (Nat.le_refl _) (by omega))
  have HL := hide (show lineB nm n cd = nm ++ spcB ++ { data := (Lib.decDigits n).toArray } ++ spcB ++ cd by unfold lineB; rw [itoa_nat])
  rw [itoa_nat] at hD
  clear z1 z2 z3 h
  generalize hDe : ({ data := (Lib.decDigits n).toArray } : ByteArray) = D at hD HL HI
  clear hDe
  have q1 : ¬ 9223372036854775807 < nm.size + 1 := by omega
  have q2 : ¬ 9223372036854775807 < nm.size + 1 + D.size := by omega
  have q3 : ¬ 9223372036854775807 < nm.size + 1 + D.size + 1 := by omega
  have q4 : ¬ 9223372036854775807 < nm.size + 1 + D.size + 1 + cd.size := by omega
  unfold imgC at HB ⊢
  go_enter Tryd.func9, Tryd.ntmps9
  go_wp2_with (fail)
  refine (HI.out _).mono ?_
  rintro e w1 ⟨rfl, rfl⟩
  go_wp2
  go_ret
  exact ⟨by rw [HL.out]; rfl, HB.out⟩

set_option maxHeartbeats 4000000 in
theorem number_any (s : ByteArray) (w : World) (hs : s.size ≤ 140737488351232) :
    Calls Tryd.prog 24 #[.string s, .int .i64 4] w fun e w' => e = .returned (.tuple #[.int .i64 (numV s), .bool (numO s.data.toList).isSome]) ∧ w' = w := by
  have hbad : ∀ h : numO s.data.toList = none, Hid (numV s = 0 ∧ (numO s.data.toList).isSome = false) := fun h => ⟨(num_none h).1, by rw [h]; rfl⟩
  by_cases h0 : s.size = 0
  · have h1 := empty_is h0
    have E := hbad (by unfold numO; rw [if_pos (Or.inl (List.eq_nil_of_length_eq_zero (by rw [len_size]; exact h0)))])
    clear h0 hbad
    go_enter Tryd.func24, Tryd.ntmps24
    go_wp2
    go_ret2
    exact ⟨by rw [E.out.1, E.out.2]; rfl, rfl⟩
  · have h1 := empty_not h0
    by_cases h4 : 4 < s.size
    · have E := hbad (numO_long (by rw [len_size]; exact h4))
      have h4z : (4 : Int) < (s.size : Int) := by omega
      clear h0 h4 hbad
      go_enter Tryd.func24, Tryd.ntmps24
      go_wp2
      go_ret2
      exact ⟨by rw [E.out.1, E.out.2]; rfl, rfl⟩
    · have h4z : ¬ (4 : Int) < (s.size : Int) := by omega
      have hlt0 : 0 < s.size := by omega
      have HX0 : Hid (s.data.toList[0]? = some s[0]) := at_some hlt0
      have HH0 : Hid (s.data.toList.head? = some s[0]) := by show s.data.toList.head? = some s[0]; rw [List.head?_eq_getElem?]; exact HX0.out
      have h48i : s[0] = 48 ↔ ((s[0]).toNat : Int) = 48 := by
        constructor
        · intro e; rw [e]; rfl
        · intro e
          apply UInt8.toNat_inj.1
          have : (48 : UInt8).toNat = 48 := rfl
          omega
      by_cases hA : s[0] = 48 ∧ 1 < s.size
      · have E := hbad (by unfold numO; rw [if_pos (Or.inr (Or.inr ⟨by rw [HH0.out, hA.1], by rw [len_size]; exact hA.2⟩))])
        have h48 := h48i.1 hA.1
        have hlen : (1 : Int) < (s.size : Int) := by omega
        clear hA h0 h4 hbad h48i
        go_enter Tryd.func24, Tryd.ntmps24
        go_wp2
        go_ret2
        exact ⟨by rw [E.out.1, E.out.2]; rfl, rfl⟩
      · have HN : Hid (numO s.data.toList = Lib.decFrom 0 s.data.toList) := by
          show numO s.data.toList = Lib.decFrom 0 s.data.toList
          unfold numO
          rw [if_neg]
          intro hh
          rcases hh with hh | hh | ⟨g1, g2⟩
          · have := len_size s
            rw [hh] at this
            simp at this
            omega
          · rw [len_size] at hh; omega
          · rw [HH0.out] at g1
            rw [len_size] at g2
            exact hA ⟨Option.some.inj g1, g2⟩
        go_enter Tryd.func24, Tryd.ntmps24
        go_upto_region 1 with (fail)
        go_cut [25] (fun s25 w' => s25 = .bool false ∧ w' = w)
        case first =>
          by_cases h48 : ((s[0]).toNat : Int) = 48
          · have hlen : ¬ (1 : Int) < (s.size : Int) := fun h => hA ⟨h48i.2 h48, by omega⟩
            clear hA h0 h4 hbad h48i
            go_wp2
            go_meet
            exact ⟨by first | rfl | simp_all, rfl⟩
          · clear hA h0 h4 hbad h48i
            go_wp2
            go_meet
            exact ⟨by first | rfl | simp_all, rfl⟩
        case rest =>
        obtain ⟨rfl, rfl⟩ := hcut
        obtain ⟨wa, hwa⟩ : ∃ wa, wa = wc := ⟨_, rfl⟩
        subst hwa
        clear h48i hA
        go_wp2
        go_loop [6, 7] (fun m i => ∃ k a : Nat, k ≤ s.size ∧ i = .int .i64 k ∧ m = .int .i64 a ∧ a < 10000 ∧ Hid (Lib.decFrom 0 (s.data.toList.take k) = some a)) (fun _ i => s.size - (intOf i).toNat)
        case atStart => exact ⟨0, 0, by omega, rfl, rfl, by omega, rfl⟩
        case round =>
          obtain ⟨k, a, hk, rfl, rfl, ha, HD⟩ := hrel
          by_cases hlt : k < s.size
          · have HX : Hid (s.data.toList[k]? = some s[k]) := at_some hlt
            by_cases g1 : (s[k]).toNat < 48
            · have E := hbad (by rw [HN.out]; exact dec_stop HX.out (by unfold Lib.digitVal; rw [if_neg (by omega)]) 0)
              have g1z : ((s[k]).toNat : Int) < 48 := by omega
              clear g1 hbad
              go_wp2
              go_ret2
              exact ⟨by rw [E.out.1, E.out.2]; rfl, rfl⟩
            · have g1z : ¬ ((s[k]).toNat : Int) < 48 := by omega
              by_cases g2 : 57 < (s[k]).toNat
              · have E := hbad (by rw [HN.out]; exact dec_stop HX.out (by unfold Lib.digitVal; rw [if_neg (by omega)]) 0)
                have g2z : (57 : Int) < ((s[k]).toNat : Int) := by omega
                clear g1 g2 hbad
                go_wp2
                go_ret2
                exact ⟨by rw [E.out.1, E.out.2]; rfl, rfl⟩
              · have g2z : ¬ (57 : Int) < ((s[k]).toNat : Int) := by omega
                have HV := hide (show Lib.digitVal s[k] = some ((s[k]).toNat - 48) by unfold Lib.digitVal; rw [if_pos (by omega)])
                have HT := hide (Lib.decFrom_take s.data.toList k 0 a s[k] _ HD.out HX.out HV.out)
                have hb := dec_lt_len HT.out
                have hp : 10 ^ (s.data.toList.take (k + 1)).length ≤ 10 ^ 4 := Nat.pow_le_pow_right (by omega) (by rw [List.length_take, len_size]; omega)
                have hlt4 : a * 10 + ((s[k]).toNat - 48) < 10000 := by omega
                clear hb hp hbad
                go_wp2
                go_round
                case rel => exact ⟨k + 1, a * 10 + ((s[k]).toNat - 48), by omega, by go_num, by congr 1; omega, hlt4, HT.out⟩
                case measure => simp [intOf]; omega
          · have hT : Lib.decFrom 0 s.data.toList = some a := by
              have := HD.out
              rw [List.take_of_length_le (by rw [len_size]; omega)] at this
              exact this
            have E : Hid (numV s = a ∧ (numO s.data.toList).isSome = true) := ⟨(num_some (HN.out.trans hT)).1, by rw [HN.out, hT]; rfl⟩
            clear hT hbad
            go_wp2
            go_ret2
            exact ⟨by rw [E.out.1, E.out.2]; rfl, rfl⟩
end Go.Proofs.YtdbpeikijonjmaaDoor.Ref
