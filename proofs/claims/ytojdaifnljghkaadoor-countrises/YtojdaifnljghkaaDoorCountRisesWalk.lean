/-
  The walk of stairlaw2.CountRises: it returns true, and memory that was there stays as it was.
-/
import Derived.Test.YtojdaifnljghkaaDoorCntLaw
import Derived.Test.YtojdaifnljghkaaDoorCntOne
import Derived.Test.YtojdaifnljghkaaDoorAs
namespace Go.Proofs.YtojdaifnljghkaaDoor.CountRises
open Go.ChangeShapes Go.WideShapes Go.ChangeAt Go.RowKit
open Go.Proofs.YtojdaifnljghkaaDoor.M Go.Proofs.YtojdaifnljghkaaDoor.Count
set_option linter.unusedVariables false

section
variable {Cnt : World → Nat → Value → (Nat → Prop) → (ByteArray → Int) → Nat → Prop}
/-- Two counts of one name, side by side. -/
structure Two (Cnt : World → Nat → Value → (Nat → Prop) → (ByteArray → Int) → Nat → Prop) (w0 : World) (B : Nat) (p q : Value) (Sc Sd : Nat → Prop) (nm : ByteArray) (m n : Int) (W : World) : Prop where
  c : Cnt W B p Sc (oneF nm m) (oneK m)
  d : Cnt W B q Sd (oneF nm n) (oneK n)
  ap : ∀ k, Sc k → ¬ Sd k
  lo : Below B w0 W
  hb : B ≤ W.heap.size
variable {w0 W W' : World} {B : Nat} {p q : Value} {Sc Sd S' : Nat → Prop} {nm : ByteArray} {m n m' : Int}
theorem Two.below (L : Laws Cnt) (h : Two Cnt w0 B p q Sc Sd nm m n W) (hb : Below W.heap.size W W') : Two Cnt w0 B p q Sc Sd nm m n W' :=
  ⟨L.below h.c hb, L.below h.d hb, h.ap, h.lo.trans (hb.mono h.hb), Nat.le_trans h.hb hb.size⟩
theorem Two.stepC (L : Laws Cnt) (h : Two Cnt w0 B p q Sc Sd nm m n W) (hc : Cnt W' B p S' (oneF nm m') (oneK m')) (ho : Only Sc W W') (hf : ∀ k, S' k → Sc k ∨ W.heap.size ≤ k) : Two Cnt w0 B p q S' Sd nm m' n W' := by
  refine ⟨hc, L.only h.d ho (fun k hk hs => h.ap k hs hk), ?_, h.lo.trans (ho.below h.hb (fun k hk => (L.has h.c k hk).1)), Nat.le_trans h.hb ho.size⟩
  intro k hk hm
  rcases hf k hk with h1 | h1
  · exact h.ap k h1 hm
  · have := (L.has h.d k hm).2; omega
theorem Two.stepD (L : Laws Cnt) (h : Two Cnt w0 B p q Sc Sd nm m n W) (hd : Cnt W' B q S' (oneF nm m') (oneK m')) (ho : Only Sd W W') (hf : ∀ k, S' k → Sd k ∨ W.heap.size ≤ k) : Two Cnt w0 B p q Sc S' nm m m' W' := by
  refine ⟨L.only h.c ho (fun k hk hs => h.ap k hk hs), hd, ?_, h.lo.trans (ho.below h.hb (fun k hk => (L.has h.d k hk).1)), Nat.le_trans h.hb ho.size⟩
  intro k hk hm
  rcases hf k hm with h1 | h1
  · exact h.ap k hk h1
  · have := (L.has h.c k hk).2; omega
end
theorem os_name : nameB { data := #[111, 115] } = true := by decide

set_option maxRecDepth 20000 in
set_option maxHeartbeats 8000000 in
theorem walk {Cnt : World → Nat → Value → (Nat → Prop) → (ByteArray → Int) → Nat → Prop} (L : Laws Cnt) (LM : MayLaw Cnt) (nm : ByteArray) (ad : Option Addr) (n cap : Nat) (ls : List Int) (v : Int) (w : World) (hnm : nm.size ≤ 140737488351232) (hn : n = ls.length) (hm : n ≤ maxLen) (hr : Row w ad ls) (hg : As.Handle w) :
    Calls Tryd.prog 3 #[.string nm, .slice ad n cap, .int .i64 v] w fun e w' => e = .returned (.bool true) ∧ Below w.heap.size w w' := by
  have HH := hide (fun (W : World) (h : Below w.heap.size w W) => hg.below h)
  have HL := hide L
  have HLM := hide LM
  have HR := hide hr
  have HN := hide hn
  have HNM := hide hnm
  have hm' : n ≤ 9223372036854775807 := by unfold maxLen at hm; omega
  clear hg L LM hr hn hm hnm
  go_enter Tryd.func3, Tryd.ntmps3
  go_wp2_with (fail)
  refine (HL.out.new w w.heap.size (Nat.le_refl _)).mono ?_
  rintro e w1 ⟨p0, S0, rfl, hn1, _, hb1⟩
  rw [← oneF_zero { data := #[111, 115] }] at hn1
  have HN1 : Hid (Cnt w1 w.heap.size p0 S0 (oneF { data := #[111, 115] } 0) (oneK 0)) := hn1
  have HB1 := hide hb1
  clear hn1 hb1
  have R1 := hide (HL.out.raise p0 S0 _ _ { data := #[111, 115] } 5 _ w.heap.size HN1.out (by show 2 ≤ _; omega) HB1.out.size)
  obtain ⟨e1, e2, e3, e4⟩ := raise_one (m := 0) (v := 5) os_name (by omega)
  rw [e1, e2, e3, e4, show stepM 0 5 = 5 from by decide, show (if (0 : Int) ≤ 5 ∧ (5 : Int) ≤ 1000 then (0 : Int) else 1) = 0 from by decide, errV_zero] at R1
  clear e1 e2 e3 e4
  go_wp2_with (fail)
  refine R1.out.mono ?_
  rintro e w2 ⟨S2, rfl, hn2, ho2, _⟩
  have HN2 := hide hn2
  have HB2 := hide (HB1.out.trans (ho2.below HB1.out.size (fun k hk => (HL.out.has HN1.out k hk).1)))
  clear hn2 ho2 R1 HN1 HB1
  have R2 := hide (HL.out.raise p0 S2 _ _ { data := #[111, 115] } 3 _ w.heap.size HN2.out (by show 2 ≤ _; omega) HB2.out.size)
  obtain ⟨e1, e2, e3, e4⟩ := raise_one (m := 5) (v := 3) os_name (by omega)
  rw [e1, e2, e3, e4, show stepM 5 3 = 5 from by decide, show (if (0 : Int) ≤ 3 ∧ (3 : Int) ≤ 1000 then (0 : Int) else 1) = 0 from by decide, errV_zero] at R2
  clear e1 e2 e3 e4
  go_wp2_with (fail)
  refine R2.out.mono ?_
  rintro e w3 ⟨S3, rfl, hn3, ho3, _⟩
  have HN3 := hide hn3
  have HB3 := hide (HB2.out.trans (ho3.below HB2.out.size (fun k hk => (HL.out.has HN2.out k hk).1)))
  clear hn3 ho3 R2 HN2 HB2
  have M1 := hide (HLM.out p0 S3 _ _ { data := #[111, 115] } 4 _ w.heap.size HN3.out (by show 2 ≤ _; omega))
  rw [may_one os_name, show (if (1 : Int) ≤ 4 ∧ (4 : Int) ≤ 1000 then (if (4 : Int) < 5 then (9 : Int) else 0) else 1) = 9 from by decide, show errV 72 9 = .iface 72 (.int .i64 9) from rfl] at M1
  go_wp2_with (fail)
  refine M1.out.mono ?_
  rintro e w4 ⟨rfl, hb4⟩
  have HN4 := hide (HL.out.below HN3.out hb4)
  have HB4 := hide (HB3.out.trans (hb4.mono HB3.out.size))
  clear hb4 M1 HN3 HB3
  go_wp2_with (fail)
  refine (As.same_err 9 9 _ (HH.out _ HB4.out)).mono ?_
  rintro e w5 ⟨rfl, hb5⟩
  have HN5 := hide (HL.out.below HN4.out hb5)
  have HB5 := hide (HB4.out.trans (hb5.mono HB4.out.size))
  clear hb5 HN4 HB4
  have M2 := hide (HLM.out p0 S3 _ _ { data := #[111, 115] } 5 _ w.heap.size HN5.out (by show 2 ≤ _; omega))
  rw [may_one os_name, show (if (1 : Int) ≤ 5 ∧ (5 : Int) ≤ 1000 then (if (5 : Int) < 5 then (9 : Int) else 0) else 1) = 0 from by decide, errV_zero] at M2
  go_wp2_with (fail)
  refine M2.out.mono ?_
  rintro e w6 ⟨rfl, hb6⟩
  have HB6 := hide (HB5.out.trans (hb6.mono HB5.out.size))
  clear hb6 M2 HN5 HB5
  go_wp2_with (fail)
  refine (HL.out.new _ w.heap.size HB6.out.size).mono ?_
  rintro e w7 ⟨p, Sc, rfl, hn7, hf7, hb7⟩
  have HB7 := hide (HB6.out.trans (hb7.mono HB6.out.size))
  have HN7 := hide hn7
  clear hn7 hf7 hb7 HB6
  go_wp2_with (fail)
  refine (HL.out.new _ w.heap.size HB7.out.size).mono ?_
  rintro e w8 ⟨q, Sd, rfl, hn8, hf8, hb8⟩
  have HT8 : Hid (Two Cnt w w.heap.size p q Sc Sd nm 0 0 w8) :=
    ⟨by rw [oneF_zero]; exact HL.out.below HN7.out hb8, by rw [oneF_zero]; exact hn8, (fun k hk hm => by have h1 := (HL.out.has HN7.out k hk).2; have h2 := hf8 k hm; omega), HB7.out.trans (hb8.mono HB7.out.size), Nat.le_trans HB7.out.size hb8.size⟩
  clear hn8 hf8 hb8 HB7 HN7
  go_wp2
  go_loopw [15, 16, 17, 18, 19, 20, 21] (fun s15 s16 _ _ _ _ _ wr => ∃ (i : Nat) (Sc : Nat → Prop), i ≤ n ∧ i ≤ 40 ∧ s16 = .int .i64 i ∧ s15 = .int .i64 (mx (ls.take i)) ∧ Hid (Two Cnt w w.heap.size p q Sc Sd nm (mx (ls.take i)) 0 wr) ∧ Hid (i = 0 ∨ nameB nm = true)) (fun _ s16 _ _ _ _ _ _ => 40 - (intOf s16).toNat)
  case atStart => exact ⟨0, Sc, by omega, by omega, rfl, (by simp [mx]), (by show Two Cnt w w.heap.size p q Sc Sd nm (mx (ls.take 0)) 0 w8; exact HT8.out), Or.inl rfl⟩
  case round =>
    obtain ⟨i, Sc, hi, h40, rfl, rfl, HT, HZ⟩ := hrel
    clear HT8
    have HLS := hide (HL.out.least p Sc _ _ nm _ w.heap.size HT.out.c HNM.out)
    by_cases hlt : i < n ∧ i < 40
    · obtain ⟨hin, hi40⟩ := hlt
      have hinz : (i : Int) < n := by omega
      have hi40z : (i : Int) < 40 := by omega
      cases hname : nameB nm with
      | false =>
        obtain ⟨l1, l2⟩ := leaE_no (f := oneF nm (mx (ls.take i))) hname
        rw [l1, l2, show errV 72 3 = .iface 72 (.int .i64 3) from rfl] at HLS
        clear l1 l2
        generalize mx (ls.take i) = ma at *
        go_wp2_with (fail)
        refine HLS.out.mono ?_
        rintro e wa ⟨rfl, hba⟩
        have HTA := hide (HT.out.below HL.out hba)
        clear hba
        go_wp2_with (fail)
        refine (As.same_err 3 3 _ (HH.out _ HTA.out.lo)).mono ?_
        rintro e wb ⟨rfl, hbb⟩
        have HTB := hide (HTA.out.below HL.out hbb)
        clear hbb
        go_wp2
        go_ret
        exact ⟨rfl, HTB.out.lo⟩
      | true =>
        obtain ⟨y, hy⟩ : ∃ y, ls[i]? = some y := ⟨ls[i]'(by have := HN.out; omega), List.getElem?_eq_getElem (by have := HN.out; omega)⟩
        have HMT := hide (mx_take hy)
        have hma := mx_ge (ls.take i)
        obtain ⟨l1, l2⟩ := leaE_ok (f := oneF nm (mx (ls.take i))) hname
        rw [l1, l2, oneF_at, errV_zero] at HLS
        obtain ⟨e1, e2, e3, e4⟩ := raise_one (v := y) hname hma
        obtain ⟨hg1, hg2⟩ := stepM_ge (v := y) hma
        have HE1 := hide e1
        have HE2 := hide e2
        have HE3 := hide e3
        have HE4 := hide e4
        have HLN := hide (fun m => leaE_ok (f := oneF nm m) hname)
        have hse := stepM_eq (v := y) hma
        have HNE := hide (show (if 0 ≤ y ∧ y ≤ 1000 then (0 : Int) else 1) = 0 ∨ ((if 0 ≤ y ∧ y ≤ 1000 then (0 : Int) else 1) = 1 ∧ stepM (mx (ls.take i)) y = mx (ls.take i)) from by
          by_cases h : 0 ≤ y ∧ y ≤ 1000
          · exact Or.inl (if_pos h)
          · exact Or.inr ⟨if_neg h, by rw [hse, if_neg (fun hc => h ⟨hc.1, hc.2.1⟩)]⟩)
        have HNAME := hide hname
        clear l1 l2 e1 e2 e3 e4 hname hse HZ
        generalize mx (ls.take i) = ma at *
        generalize stepM ma y = mb at *
        generalize (if 0 ≤ y ∧ y ≤ 1000 then (0 : Int) else 1) = ee at *
        go_wp2_with (fail)
        refine HLS.out.mono ?_
        rintro e wa ⟨rfl, hba⟩
        have HTA := hide (HT.out.below HL.out hba)
        clear hba HLS HT
        obtain ⟨b, off, rfl, hcell⟩ : ∃ b off, ad = some ⟨b, off, none⟩ ∧ wa.cell? ⟨b, off + i, none⟩ = some (.int .i64 y) := by
          rcases HR.out.below HTA.out.lo with h | ⟨b, off, h1, h2⟩
          · rw [h] at hy; simp at hy
          · exact ⟨b, off, h1, h2 i y hy⟩
        clear hy
        have RZ := hide (HL.out.raise p Sc _ _ nm y _ w.heap.size HTA.out.c HNM.out HTA.out.hb)
        rw [HE1.out, HE2.out, HE3.out, HE4.out] at RZ
        go_wp2_with (fail)
        refine RZ.out.mono ?_
        rintro e wb ⟨S2, rfl, hn2, ho2, hf2⟩
        have HTB := hide (HTA.out.stepC HL.out hn2 ho2 hf2)
        clear hn2 ho2 hf2 RZ HTA hcell
        have LS2 := hide (HL.out.least p S2 _ _ nm _ w.heap.size HTB.out.c HNM.out)
        rw [(HLN.out mb).1, (HLN.out mb).2, oneF_at, errV_zero] at LS2
        go_wp2_with (fail)
        refine LS2.out.mono ?_
        rintro e wc ⟨rfl, hbc⟩
        have HTC := hide (HTB.out.below HL.out hbc)
        clear hbc LS2 HTB
        rw [← HMT.out] at HTC
        have HFIN := hide (show i + 1 = 0 ∨ nameB nm = true from Or.inr HNAME.out)
        by_cases hup : ma < mb
        · have hee : ee = 0 := by
            rcases HNE.out with h | h
            · exact h
            · omega
          subst hee
          rw [errV_zero]
          go_wp2
          go_roundw
          case rel => exact ⟨i + 1, S2, by omega, by omega, by go_num, by rw [HMT.out], HTC.out, Or.inr trivial⟩
          case measure => simp [intOf]; omega
        · have hmb : mb = ma := by omega
          subst hmb
          rcases HNE.out with rfl | ⟨rfl, _⟩
          · rw [errV_zero]
            go_wp2
            go_roundw
            case rel => exact ⟨i + 1, S2, by omega, by omega, by go_num, by rw [HMT.out], HTC.out, Or.inr trivial⟩
            case measure => simp [intOf]; omega
          · rw [errV_one]
            go_wp2
            go_roundw
            case rel => exact ⟨i + 1, S2, by omega, by omega, by go_num, by rw [HMT.out], HTC.out, Or.inr trivial⟩
            case measure => simp [intOf]; omega
    · have HFU := hide (show mx (ls.take i) = mx (ls.take 40) from by
        by_cases h : i = 40
        · rw [h]
        · rw [List.take_of_length_le (show ls.length ≤ i by have := HN.out; omega), List.take_of_length_le (show ls.length ≤ 40 by have := HN.out; omega)])
      have HNA := hide (show 0 < n → nameB nm = true from fun h => by
        rcases HZ.out with h1 | h1
        · omega
        · exact h1)
      have hMg := mx_ge (ls.take i)
      clear HLS HZ
      generalize hM : mx (ls.take i) = M at *
      clear hM
      obtain ⟨wd, hwd⟩ : ∃ wd, wd = wr := ⟨_, rfl⟩
      subst hwd
      have HEND := hide (show (i : Int) < n → ¬ (i : Int) < 40 from fun h => by omega)
      by_cases hin : (i : Int) < n
      · have hi40z := HEND.out hin
        clear hlt
        go_wp2
        go_loopw [22] (fun s22 w9 => ∃ (t : Nat) (Sd : Nat → Prop), t ≤ n ∧ s22 = .int .i64 ((t : Int) - 1) ∧ Hid (Two Cnt w w.heap.size p q Sc Sd nm M (mx ((ls.take 40).drop t)) w9)) (fun s22 _ => (intOf s22 + 1).toNat)
        case atStart => exact ⟨n, Sd, by omega, by go_num, (by
          show Two Cnt w w.heap.size p q Sc Sd nm M (mx ((ls.take 40).drop n)) _
          rw [List.drop_eq_nil_of_le (by rw [List.length_take, HN.out]; omega)]
          exact HT.out)⟩
        case round =>
          obtain ⟨t, Sd, ht, rfl, HU⟩ := hrel
          by_cases ht0 : 0 < t
          · have hz : (0 : Int) ≤ (t : Int) - 1 := by omega
            have HNAME := hide (HNA.out (by omega))
            obtain ⟨j, rfl⟩ : ∃ j : Nat, t = j + 1 := ⟨t - 1, by omega⟩
            have hj1 : (((j + 1 : Nat) : Int) - 1) = (j : Int) := by omega
            rw [hj1] at hz ⊢
            clear hj1
            by_cases hj40 : j < 40
            · have hj40z : (j : Int) < 40 := by omega
              have hjn : (j : Int) < n := by omega
              obtain ⟨y, hy⟩ : ∃ y, ls[j]? = some y := ⟨ls[j]'(by have := HN.out; omega), List.getElem?_eq_getElem (by have := HN.out; omega)⟩
              obtain ⟨b, off, rfl, hcell⟩ : ∃ b off, ad = some ⟨b, off, none⟩ ∧ wr.cell? ⟨b, off + j, none⟩ = some (.int .i64 y) := by
                rcases HR.out.below HU.out.lo with h | ⟨b, off, h1, h2⟩
                · rw [h] at hy; simp at hy
                · exact ⟨b, off, h1, h2 j y hy⟩
              have HMD := hide (mx_drop (xs := ls.take 40) (k := j) (v := y) (by rw [List.getElem?_take, if_pos hj40]; exact hy))
              clear hy
              have RZ := hide (HL.out.raise q Sd _ _ nm y _ w.heap.size HU.out.d HNM.out HU.out.hb)
              obtain ⟨e1, e2, e3, e4⟩ := raise_one (v := y) HNAME.out (mx_ge ((ls.take 40).drop (j + 1)))
              rw [e3, e4, ← HMD.out] at RZ
              clear e1 e2 e3 e4
              go_wp2_with (fail)
              refine RZ.out.mono ?_
              rintro e wb ⟨S2, rfl, hn2, ho2, hf2⟩
              have HUB := hide (HU.out.stepD HL.out hn2 ho2 hf2)
              clear hn2 ho2 hf2 RZ hcell
              go_wp2
              go_roundw
              case rel => exact ⟨j, S2, by omega, by go_num, HUB.out⟩
              case measure => simp [intOf]; try omega
            · have hj40z : ¬ (j : Int) < 40 := by omega
              have HUB : Hid (Two Cnt w w.heap.size p q Sc Sd nm M (mx ((ls.take 40).drop j)) wr) := by
                have e1 : (ls.take 40).drop j = [] := List.drop_eq_nil_of_le (by rw [List.length_take]; omega)
                have e2 : (ls.take 40).drop (j + 1) = [] := List.drop_eq_nil_of_le (by rw [List.length_take]; omega)
                rw [e1, ← e2]
                exact HU.out
              go_wp2
              go_roundw
              case rel => exact ⟨j, Sd, by omega, by go_num, HUB.out⟩
              case measure => simp [intOf]; try omega
          · have e0 : t = 0 := by omega
            subst e0
            rw [List.drop_zero, ← HFU.out] at HU
            clear HFU HT
            have LC := hide (HL.out.least p Sc _ _ nm _ w.heap.size HU.out.c HNM.out)
            cases hname : nameB nm with
            | false =>
              obtain ⟨l1, l2⟩ := leaE_no (f := oneF nm M) hname
              rw [l1, l2, show errV 72 3 = .iface 72 (.int .i64 3) from rfl] at LC
              clear l1 l2
              go_wp2_with (fail)
              refine LC.out.mono ?_
              rintro e wa ⟨rfl, hba⟩
              have HTA := hide (HU.out.below HL.out hba)
              clear hba
              go_wp2_with (fail)
              refine (As.same_err 3 3 _ (HH.out _ HTA.out.lo)).mono ?_
              rintro e wb ⟨rfl, hbb⟩
              have HTB := hide (HTA.out.below HL.out hbb)
              clear hbb
              go_wp2
              go_ret
              exact ⟨rfl, HTB.out.lo⟩
            | true =>
              obtain ⟨l1, l2⟩ := leaE_ok (f := oneF nm M) hname
              have HL2 := hide (And.intro l1 l2)
              rw [l1, l2, oneF_at, errV_zero] at LC
              have HMO := hide (may_one (nm := nm) (m := M) (v := v) hname)
              clear l1 l2 hname
              go_wp2_with (fail)
              refine LC.out.mono ?_
              rintro e wa ⟨rfl, hba⟩
              have HTA := hide (HU.out.below HL.out hba)
              clear hba LC HU
              have LD := hide (HL.out.least q Sd _ _ nm _ w.heap.size HTA.out.d HNM.out)
              rw [HL2.out.1, HL2.out.2, oneF_at, errV_zero] at LD
              go_wp2_with (fail)
              refine LD.out.mono ?_
              rintro e wb ⟨rfl, hbb⟩
              have HTB := hide (HTA.out.below HL.out hbb)
              clear hbb LD HTA
              have MY := hide (HLM.out p Sc _ _ nm v _ w.heap.size HTB.out.c HNM.out)
              rw [HMO.out] at MY
              by_cases hv : 1 ≤ v ∧ v ≤ 1000
              · rw [if_pos hv] at MY
                obtain ⟨hv1, hv2⟩ := hv
                by_cases hvm : v < M
                · rw [if_pos hvm, show errV 72 9 = .iface 72 (.int .i64 9) from rfl] at MY
                  go_wp2_with (fail)
                  refine MY.out.mono ?_
                  rintro e wd2 ⟨rfl, hbd⟩
                  have HTD := hide (HTB.out.below HL.out hbd)
                  clear hbd MY HTB
                  go_wp2_with (fail)
                  refine (As.same_err 9 9 _ (HH.out _ HTD.out.lo)).mono ?_
                  rintro e wf ⟨rfl, hbf⟩
                  have HTF := hide (HTD.out.below HL.out hbf)
                  clear hbf
                  go_wp2
                  all_goals go_ret
                  all_goals exact ⟨rfl, HTF.out.lo⟩
                · rw [if_neg hvm, errV_zero] at MY
                  go_wp2_with (fail)
                  refine MY.out.mono ?_
                  rintro e wd2 ⟨rfl, hbd⟩
                  have HTD := hide (HTB.out.below HL.out hbd)
                  clear hbd MY HTB
                  go_wp2
                  all_goals go_ret
                  all_goals exact ⟨rfl, HTD.out.lo⟩
              · rw [if_neg hv, errV_one] at MY
                by_cases hv1 : v < 1
                · clear hv
                  go_wp2_with (fail)
                  refine MY.out.mono ?_
                  rintro e wd2 ⟨rfl, hbd⟩
                  have HTD := hide (HTB.out.below HL.out hbd)
                  clear hbd MY HTB
                  go_wp2_with (fail)
                  refine (As.same_err 1 1 _ (HH.out _ HTD.out.lo)).mono ?_
                  rintro e wf ⟨rfl, hbf⟩
                  have HTF := hide (HTD.out.below HL.out hbf)
                  clear hbf
                  go_wp2
                  all_goals go_ret
                  all_goals exact ⟨rfl, HTF.out.lo⟩
                · have hv2 : 1000 < v := by omega
                  clear hv
                  go_wp2_with (fail)
                  refine MY.out.mono ?_
                  rintro e wd2 ⟨rfl, hbd⟩
                  have HTD := hide (HTB.out.below HL.out hbd)
                  clear hbd MY HTB
                  go_wp2_with (fail)
                  refine (As.same_err 1 1 _ (HH.out _ HTD.out.lo)).mono ?_
                  rintro e wf ⟨rfl, hbf⟩
                  have HTF := hide (HTD.out.below HL.out hbf)
                  clear hbf
                  go_wp2
                  all_goals go_ret
                  all_goals exact ⟨rfl, HTF.out.lo⟩
      · clear hlt
        go_wp2
        go_loopw [22] (fun s22 w9 => ∃ (t : Nat) (Sd : Nat → Prop), t ≤ n ∧ s22 = .int .i64 ((t : Int) - 1) ∧ Hid (Two Cnt w w.heap.size p q Sc Sd nm M (mx ((ls.take 40).drop t)) w9)) (fun s22 _ => (intOf s22 + 1).toNat)
        case atStart => exact ⟨n, Sd, by omega, by go_num, (by
          show Two Cnt w w.heap.size p q Sc Sd nm M (mx ((ls.take 40).drop n)) _
          rw [List.drop_eq_nil_of_le (by rw [List.length_take, HN.out]; omega)]
          exact HT.out)⟩
        case round =>
          obtain ⟨t, Sd, ht, rfl, HU⟩ := hrel
          by_cases ht0 : 0 < t
          · have hz : (0 : Int) ≤ (t : Int) - 1 := by omega
            have HNAME := hide (HNA.out (by omega))
            obtain ⟨j, rfl⟩ : ∃ j : Nat, t = j + 1 := ⟨t - 1, by omega⟩
            have hj1 : (((j + 1 : Nat) : Int) - 1) = (j : Int) := by omega
            rw [hj1] at hz ⊢
            clear hj1
            by_cases hj40 : j < 40
            · have hj40z : (j : Int) < 40 := by omega
              have hjn : (j : Int) < n := by omega
              obtain ⟨y, hy⟩ : ∃ y, ls[j]? = some y := ⟨ls[j]'(by have := HN.out; omega), List.getElem?_eq_getElem (by have := HN.out; omega)⟩
              obtain ⟨b, off, rfl, hcell⟩ : ∃ b off, ad = some ⟨b, off, none⟩ ∧ wr.cell? ⟨b, off + j, none⟩ = some (.int .i64 y) := by
                rcases HR.out.below HU.out.lo with h | ⟨b, off, h1, h2⟩
                · rw [h] at hy; simp at hy
                · exact ⟨b, off, h1, h2 j y hy⟩
              have HMD := hide (mx_drop (xs := ls.take 40) (k := j) (v := y) (by rw [List.getElem?_take, if_pos hj40]; exact hy))
              clear hy
              have RZ := hide (HL.out.raise q Sd _ _ nm y _ w.heap.size HU.out.d HNM.out HU.out.hb)
              obtain ⟨e1, e2, e3, e4⟩ := raise_one (v := y) HNAME.out (mx_ge ((ls.take 40).drop (j + 1)))
              rw [e3, e4, ← HMD.out] at RZ
              clear e1 e2 e3 e4
              go_wp2_with (fail)
              refine RZ.out.mono ?_
              rintro e wb ⟨S2, rfl, hn2, ho2, hf2⟩
              have HUB := hide (HU.out.stepD HL.out hn2 ho2 hf2)
              clear hn2 ho2 hf2 RZ hcell
              go_wp2
              go_roundw
              case rel => exact ⟨j, S2, by omega, by go_num, HUB.out⟩
              case measure => simp [intOf]; try omega
            · have hj40z : ¬ (j : Int) < 40 := by omega
              have HUB : Hid (Two Cnt w w.heap.size p q Sc Sd nm M (mx ((ls.take 40).drop j)) wr) := by
                have e1 : (ls.take 40).drop j = [] := List.drop_eq_nil_of_le (by rw [List.length_take]; omega)
                have e2 : (ls.take 40).drop (j + 1) = [] := List.drop_eq_nil_of_le (by rw [List.length_take]; omega)
                rw [e1, ← e2]
                exact HU.out
              go_wp2
              go_roundw
              case rel => exact ⟨j, Sd, by omega, by go_num, HUB.out⟩
              case measure => simp [intOf]; try omega
          · have e0 : t = 0 := by omega
            subst e0
            rw [List.drop_zero, ← HFU.out] at HU
            clear HFU HT
            have LC := hide (HL.out.least p Sc _ _ nm _ w.heap.size HU.out.c HNM.out)
            cases hname : nameB nm with
            | false =>
              obtain ⟨l1, l2⟩ := leaE_no (f := oneF nm M) hname
              rw [l1, l2, show errV 72 3 = .iface 72 (.int .i64 3) from rfl] at LC
              clear l1 l2
              go_wp2_with (fail)
              refine LC.out.mono ?_
              rintro e wa ⟨rfl, hba⟩
              have HTA := hide (HU.out.below HL.out hba)
              clear hba
              go_wp2_with (fail)
              refine (As.same_err 3 3 _ (HH.out _ HTA.out.lo)).mono ?_
              rintro e wb ⟨rfl, hbb⟩
              have HTB := hide (HTA.out.below HL.out hbb)
              clear hbb
              go_wp2
              go_ret
              exact ⟨rfl, HTB.out.lo⟩
            | true =>
              obtain ⟨l1, l2⟩ := leaE_ok (f := oneF nm M) hname
              have HL2 := hide (And.intro l1 l2)
              rw [l1, l2, oneF_at, errV_zero] at LC
              have HMO := hide (may_one (nm := nm) (m := M) (v := v) hname)
              clear l1 l2 hname
              go_wp2_with (fail)
              refine LC.out.mono ?_
              rintro e wa ⟨rfl, hba⟩
              have HTA := hide (HU.out.below HL.out hba)
              clear hba LC HU
              have LD := hide (HL.out.least q Sd _ _ nm _ w.heap.size HTA.out.d HNM.out)
              rw [HL2.out.1, HL2.out.2, oneF_at, errV_zero] at LD
              go_wp2_with (fail)
              refine LD.out.mono ?_
              rintro e wb ⟨rfl, hbb⟩
              have HTB := hide (HTA.out.below HL.out hbb)
              clear hbb LD HTA
              have MY := hide (HLM.out p Sc _ _ nm v _ w.heap.size HTB.out.c HNM.out)
              rw [HMO.out] at MY
              by_cases hv : 1 ≤ v ∧ v ≤ 1000
              · rw [if_pos hv] at MY
                obtain ⟨hv1, hv2⟩ := hv
                by_cases hvm : v < M
                · rw [if_pos hvm, show errV 72 9 = .iface 72 (.int .i64 9) from rfl] at MY
                  go_wp2_with (fail)
                  refine MY.out.mono ?_
                  rintro e wd2 ⟨rfl, hbd⟩
                  have HTD := hide (HTB.out.below HL.out hbd)
                  clear hbd MY HTB
                  go_wp2_with (fail)
                  refine (As.same_err 9 9 _ (HH.out _ HTD.out.lo)).mono ?_
                  rintro e wf ⟨rfl, hbf⟩
                  have HTF := hide (HTD.out.below HL.out hbf)
                  clear hbf
                  go_wp2
                  all_goals go_ret
                  all_goals exact ⟨rfl, HTF.out.lo⟩
                · rw [if_neg hvm, errV_zero] at MY
                  go_wp2_with (fail)
                  refine MY.out.mono ?_
                  rintro e wd2 ⟨rfl, hbd⟩
                  have HTD := hide (HTB.out.below HL.out hbd)
                  clear hbd MY HTB
                  go_wp2
                  all_goals go_ret
                  all_goals exact ⟨rfl, HTD.out.lo⟩
              · rw [if_neg hv, errV_one] at MY
                by_cases hv1 : v < 1
                · clear hv
                  go_wp2_with (fail)
                  refine MY.out.mono ?_
                  rintro e wd2 ⟨rfl, hbd⟩
                  have HTD := hide (HTB.out.below HL.out hbd)
                  clear hbd MY HTB
                  go_wp2_with (fail)
                  refine (As.same_err 1 1 _ (HH.out _ HTD.out.lo)).mono ?_
                  rintro e wf ⟨rfl, hbf⟩
                  have HTF := hide (HTD.out.below HL.out hbf)
                  clear hbf
                  go_wp2
                  all_goals go_ret
                  all_goals exact ⟨rfl, HTF.out.lo⟩
                · have hv2 : 1000 < v := by omega
                  clear hv
                  go_wp2_with (fail)
                  refine MY.out.mono ?_
                  rintro e wd2 ⟨rfl, hbd⟩
                  have HTD := hide (HTB.out.below HL.out hbd)
                  clear hbd MY HTB
                  go_wp2_with (fail)
                  refine (As.same_err 1 1 _ (HH.out _ HTD.out.lo)).mono ?_
                  rintro e wf ⟨rfl, hbf⟩
                  have HTF := hide (HTD.out.below HL.out hbf)
                  clear hbf
                  go_wp2
                  all_goals go_ret
                  all_goals exact ⟨rfl, HTF.out.lo⟩
end Go.Proofs.YtojdaifnljghkaaDoor.CountRises
