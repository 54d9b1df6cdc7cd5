/-
  The walk of stairlaw2.CountPlays: it returns true, and memory that was there stays as it was.
-/
import Derived.Test.YtojdaifnljghkaaDoorCntLaw
import Derived.Test.YtojdaifnljghkaaDoorCntRef2
import Derived.Test.YtojdaifnljghkaaDoorAs
import Derived.Deep.RegionHeld3
import Derived.Deep.DeepCutAuto
import Derived.Deep.CutBlock
namespace Go.Proofs.YtojdaifnljghkaaDoor.CountPlays
open Go.ChangeShapes Go.WideShapes Go.ChangeAt Go.RowKit
open Go.Proofs.YtojdaifnljghkaaDoor.M Go.Proofs.YtojdaifnljghkaaDoor.Count Go.Proofs.YtojdaifnljghkaaDoor.CntRef
set_option linter.unusedVariables false

def strV (s : ByteArray) : List Value := [.string s]
/-- The program's counts, and the reference's, side by side. -/
structure Duo (Cnt : World → Nat → Value → (Nat → Prop) → (ByteArray → Int) → Nat → Prop) (w0 : World) (B : Nat) (p : Value) (Sp : Nat → Prop) (f : ByteArray → Int) (kk : Nat) (g : Nat) (v : Value) (cs : List (ByteArray × Int)) (W : World) : Prop where
  n : Cnt W B p Sp f kk
  m : CIs W B g v cs
  ap : ∀ k, Sp k → ¬ cfoot g v k
  lo : Below B w0 W
  hb : B ≤ W.heap.size
section
variable {Cnt : World → Nat → Value → (Nat → Prop) → (ByteArray → Int) → Nat → Prop} {w0 W W' : World} {B g : Nat} {p v v' : Value} {Sp S' : Nat → Prop} {f f' : ByteArray → Int} {kk kk' : Nat} {cs cs' : List (ByteArray × Int)}
theorem Duo.below (L : Laws Cnt) (h : Duo Cnt w0 B p Sp f kk g v cs W) (hb : Below W.heap.size W W') : Duo Cnt w0 B p Sp f kk g v cs W' :=
  ⟨L.below h.n hb, h.m.below hb, h.ap, h.lo.trans (hb.mono h.hb), Nat.le_trans h.hb hb.size⟩
theorem Duo.drew (L : Laws Cnt) (h : Duo Cnt w0 B p Sp f kk g v cs W) : Duo Cnt w0 B p Sp f kk g v cs W.drew := h.below L (Below.drew (Below.refl _ _))
theorem Duo.stepN (L : Laws Cnt) (h : Duo Cnt w0 B p Sp f kk g v cs W) (hn : Cnt W' B p S' f' kk') (ho : Only Sp W W') (hf : ∀ k, S' k → Sp k ∨ W.heap.size ≤ k) : Duo Cnt w0 B p S' f' kk' g v cs W' := by
  refine ⟨hn, h.m.only ho (fun k hk hs => h.ap k hs hk), ?_, h.lo.trans (ho.below h.hb (fun k hk => (L.has h.n k hk).1)), Nat.le_trans h.hb ho.size⟩
  intro k hk hm
  rcases hf k hk with h1 | h1
  · exact h.ap k h1 hm
  · have := (h.m.has k hm).2; omega
theorem Duo.stepM (L : Laws Cnt) (h : Duo Cnt w0 B p Sp f kk g v cs W) (hn : CIs W' B g v' cs') (ho : Only (cfoot g v) W W') (hf : ∀ k, cfoot g v' k → cfoot g v k ∨ W.heap.size ≤ k) : Duo Cnt w0 B p Sp f kk g v' cs' W' := by
  refine ⟨L.only h.n ho (fun k hk hs => h.ap k hk hs), hn, ?_, h.lo.trans (ho.below h.hb (fun k hk => (h.m.has k hk).1)), Nat.le_trans h.hb ho.size⟩
  intro k hk hm
  rcases hf k hm with h1 | h1
  · exact h.ap k hk h1
  · have := (L.has h.n k hk).2; omega
theorem duo_S {a b : Addr} {x y : Value} (h1 : ∀ W, Below B w0 W → W.cell? a = some x) (h2 : ∀ W, Below B w0 W → W.cell? b = some y) (h : Duo Cnt w0 B p Sp f kk g v cs W) : W.cell? a = some x ∧ W.cell? b = some y ∧ Duo Cnt w0 B p Sp f kk g v cs W := ⟨h1 W h.lo, h2 W h.lo, h⟩
theorem lo_S {a b : Addr} {x y : Value} (h1 : ∀ W, Below B w0 W → W.cell? a = some x) (h2 : ∀ W, Below B w0 W → W.cell? b = some y) (h : Below B w0 W) : W.cell? a = some x ∧ W.cell? b = some y ∧ Below B w0 W := ⟨h1 W h, h2 W h, h⟩
end

set_option maxRecDepth 20000 in
set_option maxHeartbeats 8000000 in
theorem walk {Cnt : World → Nat → Value → (Nat → Prop) → (ByteArray → Int) → Nat → Prop} (L : Laws Cnt) (LM : MayLaw Cnt) (a0 a1 a2 : Option Addr) (n0 n1 n2 c0 c1 c2 : Nat) (ns : List ByteArray) (ds ls : List Int) (w : World)
    (hn0 : n0 = ns.length) (hm0 : n0 ≤ maxLen) (hr0 : RRow 1 strV w a0 ns) (hs0 : ∀ s ∈ ns, s.size ≤ 140737488351232) (hn1 : n1 = ds.length) (hm1 : n1 ≤ maxLen) (hr1 : Row w a1 ds) (hn2 : n2 = ls.length) (hm2 : n2 ≤ maxLen) (hr2 : Row w a2 ls) (hg : As.Handle w) :
    Calls Tryd.prog 5 #[.slice a0 n0 c0, .slice a1 n1 c1, .slice a2 n2 c2] w fun e w' => e = .returned (.bool true) ∧ Below w.heap.size w w' := by
  have HH := hide (fun (W : World) (h : Below w.heap.size w W) => hg.below h)
  have HL := hide L
  have HLM := hide LM
  have HR0 := hide hr0
  have HR1 := hide hr1
  have HR2 := hide hr2
  have HS0 := hide hs0
  have HN0 := hide hn0
  have HN1 := hide hn1
  have HN2 := hide hn2
  have hm0' : n0 ≤ 9223372036854775807 := by unfold maxLen at hm0; omega
  have hm1' : n1 ≤ 9223372036854775807 := by unfold maxLen at hm1; omega
  have hm2' : n2 ≤ 9223372036854775807 := by unfold maxLen at hm2; omega
  clear hg L LM hr0 hr1 hr2 hs0 hn0 hn1 hn2 hm0 hm1 hm2
  go_enter Tryd.func5, Tryd.ntmps5
  go_wp2_with (fail)
  refine (HL.out.new w w.heap.size (Nat.le_refl _)).mono ?_
  rintro e w1 ⟨p, S0, rfl, hn1, hf1, hb1⟩
  have HD1 : Hid (Duo Cnt w w.heap.size p S0 (fun _ => 0) 0 w1.heap.size (.slice none 0 0) [] (w1.alloc (.cells #[.slice none 0 0] 39))) :=
    ⟨HL.out.below hn1 (below_new _ _), ⟨blk_new _ _, OwnR.nil _ _ _, by simp [Value.ownBlock], hb1.size, by simp, by simp, by simp⟩, (fun k hk hm => by
      have h1 := (HL.out.has hn1 k hk).2
      rcases hm with h2 | h2
      · omega
      · cases h2), hb1.trans ((below_new _ _).mono hb1.size), Nat.le_trans hb1.size (below_new _ _).size⟩
  clear hn1 hf1 hb1
  go_wp2
  generalize w1.heap.size = g at *
  go_loopw [9, 10, 11, 12, 13, 14, 15, 16, 17, 18, 19, 20] (fun s9 _ _ _ _ _ _ _ _ _ _ _ wr => ∃ (i : Nat) (v : Value) (Sp : Nat → Prop) (cs : List (ByteArray × Int)), i ≤ 80 ∧ s9 = .int .i64 i ∧ Hid (Duo Cnt w w.heap.size p Sp (ofC cs) cs.length g v cs wr)) (fun s9 _ _ _ _ _ _ _ _ _ _ _ _ => 80 - (intOf s9).toNat)
  case atStart => exact ⟨0, _, S0, [], by omega, rfl, HD1.out⟩
  case round =>
    obtain ⟨i, v, Sp, cs, h80, rfl, HD⟩ := hrel
    clear HD1
    by_cases hlt : i < n0 ∧ i < n1 ∧ i < n2 ∧ i < 80
    · obtain ⟨i0, i1, i2, i80⟩ := hlt
      have i0z : (i : Int) < n0 := by omega
      have i1z : (i : Int) < n1 := by omega
      have i2z : (i : Int) < n2 := by omega
      have i80z : (i : Int) < 80 := by omega
      obtain ⟨nm, hnm⟩ : ∃ y, ns[i]? = some y := ⟨ns[i]'(by have := HN0.out; omega), List.getElem?_eq_getElem (by have := HN0.out; omega)⟩
      obtain ⟨d, hd⟩ : ∃ y, ds[i]? = some y := ⟨ds[i]'(by have := HN1.out; omega), List.getElem?_eq_getElem (by have := HN1.out; omega)⟩
      obtain ⟨x, hx⟩ : ∃ y, ls[i]? = some y := ⟨ls[i]'(by have := HN2.out; omega), List.getElem?_eq_getElem (by have := HN2.out; omega)⟩
      have HSZ := hide (HS0.out nm (List.mem_of_getElem? hnm))
      obtain ⟨b0, o0, rfl, _⟩ := HR0.out.at hnm
      have HC0 := hide (show ∀ W, Below w.heap.size w W → W.cell? ⟨b0, o0 + i, none⟩ = some (.string nm) from fun W hb => by
        obtain ⟨b', o', e, h⟩ := (HR0.out.below hb).at hnm
        cases e
        have := h 0 _ rfl
        simpa only [Nat.mul_one, Nat.add_zero] using this)
      obtain ⟨b1, o1, rfl, _⟩ : ∃ b off, a1 = some ⟨b, off, none⟩ ∧ w.cell? ⟨b, off + i, none⟩ = some (.int .i64 d) := by
        rcases HR1.out with h | ⟨b, off, h1, h2⟩
        · rw [h] at hd; simp at hd
        · exact ⟨b, off, h1, h2 i d hd⟩
      have hc1 : wr.cell? ⟨b1, o1 + i, none⟩ = some (.int .i64 d) := by
        rcases HR1.out.below HD.out.lo with h | ⟨b, off, h1, h2⟩
        · rw [h] at hd; simp at hd
        · cases h1; exact h2 i d hd
      obtain ⟨b2, o2, rfl, _⟩ : ∃ b off, a2 = some ⟨b, off, none⟩ ∧ w.cell? ⟨b, off + i, none⟩ = some (.int .i64 x) := by
        rcases HR2.out with h | ⟨b, off, h1, h2⟩
        · rw [h] at hx; simp at hx
        · exact ⟨b, off, h1, h2 i x hx⟩
      have HC2 := hide (show ∀ W, Below w.heap.size w W → W.cell? ⟨b2, o2 + i, none⟩ = some (.int .i64 x) from fun W hb => by
        rcases HR2.out.below hb with h | ⟨b, off, h1, h2⟩
        · rw [h] at hx; simp at hx
        · cases h1; exact h2 i x hx)
      clear hnm hd hx
      go_upto_if 50 with (fail)
      go_cut [10, 11, 12, 13, 14] from 24 to 144 (fun s10 _ _ _ _ w' => s10 = .bool true ∧ ∃ (v : Value) (Sp : Nat → Prop) (cs : List (ByteArray × Int)), Hid (Duo Cnt w w.heap.size p Sp (ofC cs) cs.length g v cs w'))
      case first =>
        by_cases hd0 : d = 0
        · subst hd0
          have hq0 := HC0.out _ HD.out.lo
          have hq2 := HC2.out _ HD.out.lo
          have hDD := HD.out
          go_wp2_with (fail)
          go_region_held3 (fun W => W.cell? ⟨b0, o0 + i, none⟩ = some (.string nm) ∧ W.cell? ⟨b2, o2 + i, none⟩ = some (.int .i64 x) ∧ Duo Cnt w w.heap.size p Sp (ofC cs) cs.length g v cs W)
            (exact duo_S HC0.out HC2.out (by repeat (first | assumption | apply Duo.drew HL.out)))
            (first
              | (go_at_call 10; refine (HLM.out p Sp (ofC cs) cs.length nm x _ w.heap.size (Duo.n (by repeat (first | assumption | apply Duo.drew HL.out))) HSZ.out).mono ?_; rintro e w5 ⟨rfl, hb5⟩; have hD5 : Duo Cnt w w.heap.size p Sp (ofC cs) cs.length g v cs w5 := Duo.below HL.out (by repeat (first | assumption | apply Duo.drew HL.out)) hb5; clear hb5; have hq50 := HC0.out _ hD5.lo; have hq52 := HC2.out _ hD5.lo)
              | (go_at_call 13; refine (may_any g v cs nm x _ w.heap.size (Duo.m (by repeat (first | assumption | apply Duo.drew HL.out))) HSZ.out).mono ?_; rintro e w6 ⟨rfl, hw6⟩; rw [hw6]; clear hw6)
              | (go_at_call 11; refine (As.same_is _ _ _ rfl (HH.out _ (Duo.lo (by repeat (first | assumption | apply Duo.drew HL.out))))).mono ?_; rintro e w7 ⟨rfl, hb7⟩; have hD7 : Duo Cnt w w.heap.size p Sp (ofC cs) cs.length g v cs w7 := Duo.below HL.out (by repeat (first | assumption | apply Duo.drew HL.out)) hb7; clear hb7; have hq70 := HC0.out _ hD7.lo; have hq72 := HC2.out _ hD7.lo))
          all_goals
            go_wp2
            go_meet
            exact ⟨rfl, v, Sp, cs, by repeat (first | assumption | apply Duo.drew HL.out)⟩
        · have hq0 := HC0.out _ HD.out.lo
          have hq2 := HC2.out _ HD.out.lo
          have hDD := HD.out
          have hlo := HD.out.lo
          go_upto_region 9 with (fail)
          go_cut [11, 12] from 24 to 144 (fun s11 s12 w' => s11 = .bool (raiB (ofC cs) cs.length nm x) ∧ s12 = .int .i64 (raiE (ofC cs) cs.length nm x) ∧ ∃ (v' : Value) (cs' : List (ByteArray × Int)), Hid (Duo Cnt w w.heap.size p Sp (ofC cs) cs.length g v' cs' w') ∧ Hid (ofC cs' = raiF (ofC cs) cs.length nm x ∧ cs'.length = raiK (ofC cs) cs.length nm x))
          case first =>
            go_region_held3 (fun W => W.cell? ⟨b0, o0 + i, none⟩ = some (.string nm) ∧ W.cell? ⟨b2, o2 + i, none⟩ = some (.int .i64 x) ∧ Below w.heap.size w W)
              (exact lo_S HC0.out HC2.out (by repeat (first | assumption | apply Below.drew)))
              (first
                | (go_at_call 14; refine (raise_any g v cs nm x _ w.heap.size (Duo.m (by repeat (first | assumption | apply Duo.drew HL.out))) HSZ.out (Duo.hb (by repeat (first | assumption | apply Duo.drew HL.out)))).mono ?_; rintro e w5 ⟨rfl, v5, cs5, h51, h52, h53, h54, h55⟩; have hD5 : Duo Cnt w w.heap.size p Sp (ofC cs) cs.length g v5 cs5 w5 := Duo.stepM HL.out (by repeat (first | assumption | apply Duo.drew HL.out)) h51 h54 h55; have hE5 := hide (And.intro h52 h53); have hlo5 := hD5.lo; clear h51 h52 h53 h54 h55; have hq50 := HC0.out _ hlo5; have hq52 := HC2.out _ hlo5))
            all_goals
              go_wp2
              go_meet
              exact ⟨rfl, rfl, _, _, by repeat (first | assumption | apply Duo.drew HL.out), by assumption⟩
          case rest =>
          obtain ⟨rfl, rfl, v2, cs2, HD2, HE2⟩ := hcut
          clear hq0 hq2 hDD hlo HD hc1
          have hq0 := HC0.out _ HD2.out.lo
          have hq2 := HC2.out _ HD2.out.lo
          have hDD := HD2.out
          have hlo := HD2.out.lo
          go_upto_region 10 with (fail)
          go_cut [13, 14] from 24 to 144 (fun s13 s14 w' => s13 = .bool (raiB (ofC cs) cs.length nm x) ∧ s14 = errV 72 (raiE (ofC cs) cs.length nm x) ∧ ∃ (S' : Nat → Prop), Hid (Duo Cnt w w.heap.size p S' (raiF (ofC cs) cs.length nm x) (raiK (ofC cs) cs.length nm x) g v2 cs2 w'))
          case first =>
            go_region_held3 (fun W => W.cell? ⟨b0, o0 + i, none⟩ = some (.string nm) ∧ W.cell? ⟨b2, o2 + i, none⟩ = some (.int .i64 x) ∧ Below w.heap.size w W)
              (exact lo_S HC0.out HC2.out (by repeat (first | assumption | apply Below.drew)))
              (first
                | (go_at_call 9; refine (HL.out.raise p Sp (ofC cs) cs.length nm x _ w.heap.size (Duo.n (by repeat (first | assumption | apply Duo.drew HL.out))) HSZ.out (Duo.hb (by repeat (first | assumption | apply Duo.drew HL.out)))).mono ?_; rintro e w5 ⟨S5, rfl, h51, h52, h53⟩; have hD5 : Duo Cnt w w.heap.size p S5 (raiF (ofC cs) cs.length nm x) (raiK (ofC cs) cs.length nm x) g v2 cs2 w5 := Duo.stepN HL.out (by repeat (first | assumption | apply Duo.drew HL.out)) h51 h52 h53; have hlo5 := hD5.lo; clear h51 h52 h53; have hq50 := HC0.out _ hlo5; have hq52 := HC2.out _ hlo5))
            all_goals
              go_wp2
              go_meet
              exact ⟨rfl, rfl, _, by repeat (first | assumption | apply Duo.drew HL.out)⟩
          case rest =>
          obtain ⟨rfl, rfl, S3, HD3⟩ := hcut
          clear hq0 hq2 hDD hlo HD2
          have HD4 := hide (show Duo Cnt w w.heap.size p S3 (ofC cs2) cs2.length g v2 cs2 _ by rw [HE2.out.1, HE2.out.2]; exact HD3.out)
          clear HD3
          generalize raiE (ofC cs) cs.length nm x = re at *
          generalize raiB (ofC cs) cs.length nm x = rb at *
          go_wp2_with (fail)
          refine (As.same_is _ _ _ rfl (HH.out _ HD4.out.lo)).mono ?_
          rintro e w7 ⟨rfl, hb7⟩
          have HD7 := hide (HD4.out.below HL.out hb7)
          clear hb7 HD4
          go_wp2
          go_meet
          exact ⟨by cases rb <;> rfl, v2, S3, cs2, HD7.out⟩
      case rest =>
      obtain ⟨rfl, v1, S1, cs1, HD1⟩ := hcut
      clear HD hc1
      go_wp2
      go_loopw [10, 15, 16, 17, 18, 19, 20] (fun s10 s15 _ _ _ _ _ wr2 => ∃ (k : Nat), k ≤ i + 1 ∧ s10 = .bool true ∧ s15 = .int .i64 k ∧ Hid (Duo Cnt w w.heap.size p S1 (ofC cs1) cs1.length g v1 cs1 wr2)) (fun _ s15 _ _ _ _ _ _ => i + 1 - (intOf s15).toNat)
      case atStart => exact ⟨0, by omega, rfl, rfl, HD1.out⟩
      case round =>
        obtain ⟨k, hk, rfl, rfl, HD2⟩ := hrel
        clear HD1
        by_cases hki : k ≤ i
        · have hkz : (k : Int) ≤ i := by omega
          have hk0z : (k : Int) < n0 := by omega
          obtain ⟨nk, hnk⟩ : ∃ y, ns[k]? = some y := ⟨ns[k]'(by have := HN0.out; omega), List.getElem?_eq_getElem (by have := HN0.out; omega)⟩
          have HSK := hide (HS0.out nk (List.mem_of_getElem? hnk))
          have HCK := hide (show ∀ W, Below w.heap.size w W → W.cell? ⟨b0, o0 + k, none⟩ = some (.string nk) from fun W hb => by
            obtain ⟨b', o', e, h⟩ := (HR0.out.below hb).at hnk
            cases e
            have := h 0 _ rfl
            simpa only [Nat.mul_one, Nat.add_zero] using this)
          clear hnk
          have hq := HCK.out _ HD2.out.lo
          have NM := hide (fun W => name_any nk W HSK.out)
          have LE := hide (fun W (h : Duo Cnt w w.heap.size p S1 (ofC cs1) cs1.length g v1 cs1 W) => HL.out.least p S1 (ofC cs1) cs1.length nk W w.heap.size h.n HSK.out)
          cases hnb : nameB nk with
          | false =>
            obtain ⟨e1, e2⟩ := leaE_no (f := ofC cs1) hnb
            rw [e1, e2] at LE
            rw [hnb] at NM
            clear e1 e2
            go_wp2_with (fail)
            refine (NM.out _).mono ?_
            rintro e w3 ⟨rfl, hw⟩
            rw [hw]
            clear hw
            go_wp2_with (fail)
            refine (LE.out _ HD2.out).mono ?_
            rintro e w4 ⟨rfl, hb4⟩
            have HD4 := hide (HD2.out.below HL.out hb4)
            clear hb4 HD2 hq
            go_wp2_with (fail)
            refine (As.same_is _ _ _ rfl (HH.out _ HD4.out.lo)).mono ?_
            rintro e w5 ⟨rfl, hb5⟩
            have HD5 := hide (HD4.out.below HL.out hb5)
            clear hb5 HD4
            go_wp2
            go_roundw
            case rel => exact ⟨k + 1, by omega, rfl, by go_num, HD5.out⟩
            case measure => simp [intOf]; omega
          | true =>
            obtain ⟨e1, e2⟩ := leaE_ok (f := ofC cs1) hnb
            rw [e1, e2] at LE
            rw [hnb] at NM
            clear e1 e2
            have OF := hide (fun W (h : Duo Cnt w w.heap.size p S1 (ofC cs1) cs1.length g v1 cs1 W) => of_any g v1 cs1 nk W w.heap.size h.m)
            have hDD := HD2.out
            go_wp2_with (fail)
            refine (NM.out _).mono ?_
            rintro e w3 ⟨rfl, hw⟩
            rw [hw]
            clear hw
            go_wp2_with (fail)
            refine (OF.out _ HD2.out).mono ?_
            rintro e w3 ⟨rfl, hw⟩
            rw [hw]
            clear hw
            go_wp2_with (fail)
            refine (LE.out _ HD2.out).mono ?_
            rintro e w4 ⟨rfl, hb4⟩
            have HD4 := hide (HD2.out.below HL.out hb4)
            clear hb4 HD2 hq hDD
            go_wp2_with (fail)
            refine (As.same_is _ _ _ rfl (HH.out _ HD4.out.lo)).mono ?_
            rintro e w5 ⟨rfl, hb5⟩
            have HD5 := hide (HD4.out.below HL.out hb5)
            clear hb5 HD4
            go_wp2
            go_roundw
            case rel => exact ⟨k + 1, by omega, rfl, by go_num, HD5.out⟩
            case measure => simp [intOf]; omega
        · have hkz : ¬ (k : Int) ≤ i := by omega
          go_wp2
          go_roundw
          case rel => exact ⟨i + 1, _, _, _, by omega, by go_num, HD2.out⟩
          case measure => simp [intOf]; omega
    · by_cases h0 : i < n0
      · have h0z : (i : Int) < n0 := by omega
        by_cases h1 : i < n1
        · have h1z : (i : Int) < n1 := by omega
          by_cases h2 : i < n2
          · have h2z : (i : Int) < n2 := by omega
            have h3z : ¬ (i : Int) < 80 := by omega
            clear hlt
            go_wp2
            go_ret
            exact ⟨rfl, HD.out.lo⟩
          · have h2z : ¬ (i : Int) < n2 := by omega
            clear hlt
            go_wp2
            go_ret
            exact ⟨rfl, HD.out.lo⟩
        · have h1z : ¬ (i : Int) < n1 := by omega
          clear hlt
          go_wp2
          go_ret
          exact ⟨rfl, HD.out.lo⟩
      · have h0z : ¬ (i : Int) < n0 := by omega
        clear hlt
        go_wp2
        go_ret
        exact ⟨rfl, HD.out.lo⟩
end Go.Proofs.YtojdaifnljghkaaDoor.CountPlays
