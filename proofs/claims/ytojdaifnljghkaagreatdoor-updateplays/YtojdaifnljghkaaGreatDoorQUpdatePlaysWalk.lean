/-
  The walk of stairlaw2.UpdatePlays: it returns true, and memory that was there stays as it was.
-/
import Derived.Test.YtojdaifnljghkaaGreatDoorQUpdRef
import Derived.Test.YtojdaifnljghkaaGreatDoorQSlotOb
import Derived.Test.YtojdaifnljghkaaGreatDoorQAs
import Derived.Deep.RegionHeld3
import Derived.Deep.DeepCutAuto
import Derived.Deep.CutBlock
namespace Go.Proofs.YtojdaifnljghkaaGreatDoor.UpdatePlays
open Go.ChangeShapes Go.WideShapes Go.ChangeAt Go.RowKit
open Go.Proofs.YtojdaifnljghkaaGreatDoor.M Go.Proofs.YtojdaifnljghkaaGreatDoor.Update Go.Proofs.YtojdaifnljghkaaGreatDoor.CntRef Go.Proofs.YtojdaifnljghkaaGreatDoor.SlotRef Go.Proofs.YtojdaifnljghkaaGreatDoor.Image
set_option linter.unusedVariables false

def strV (s : ByteArray) : List Value := [.string s]
def nowO (now : Sg) : Obj := .cells #[.string now.nm, .int .i64 now.v, .string now.cd, .int .i64 now.p, .int .i64 now.a] 30
section
variable {Cnt : World → Nat → Value → (Nat → Prop) → (ByteArray → Int) → Nat → Prop} {Slt : World → Nat → Value → (Nat → Prop) → St → Prop}
/-- The program's counts, and the reference's, and the first image; then the slots, too: things that lie apart. -/
def Duo (LC : Count.Core Cnt) (w0 : World) (p : Value) (S : Nat → Prop) (f : ByteArray → Int) (k : Nat) (g : Nat) (v : Value) (cs : List (ByteArray × Int)) (now : Sg) (W : World) : Prop :=
  Sep w0 w0.heap.size [cntI LC w0.heap.size p S f k, cisI w0.heap.size g v cs, blkI w0.heap.size w0.heap.size (Nat.le_refl _) (nowO now)] W
def Quad (LC : Count.Core Cnt) (LS : Slot.Core Slt) (w0 : World) (q : Value) (T : Nat → Prop) (t : St) (h : Nat) (u : St) (p : Value) (S : Nat → Prop) (f : ByteArray → Int) (k : Nat) (g : Nat) (v : Value) (cs : List (ByteArray × Int)) (now : Sg) (W : World) : Prop :=
  Sep w0 w0.heap.size [sltI LS w0.heap.size q T t, sisI w0.heap.size h u, cntI LC w0.heap.size p S f k, cisI w0.heap.size g v cs, blkI w0.heap.size w0.heap.size (Nat.le_refl _) (nowO now)] W
variable {LC : Count.Core Cnt} {LS : Slot.Core Slt} {w0 W W' W2 : World} {q p v v' : Value} {T T' S S' : Nat → Prop} {t t' u u' : St} {f f' : ByteArray → Int} {h g k k' : Nat} {cs cs' : List (ByteArray × Int)} {now : Sg}
theorem Duo.drew (hd : Duo LC w0 p S f k g v cs now W) : Duo LC w0 p S f k g v cs now W.drew := Sep.drew hd
theorem Duo.below (hd : Duo LC w0 p S f k g v cs now W) (hb : Below W.heap.size W W') : Duo LC w0 p S f k g v cs now W' := Sep.below hd hb
theorem Duo.lo (hd : Duo LC w0 p S f k g v cs now W) : Below w0.heap.size w0 W := Sep.lo hd
theorem Duo.hb (hd : Duo LC w0 p S f k g v cs now W) : w0.heap.size ≤ W.heap.size := Sep.hb hd
theorem Duo.n (hd : Duo LC w0 p S f k g v cs now W) : Cnt W w0.heap.size p S f k := Sep.p0 hd
theorem Duo.m (hd : Duo LC w0 p S f k g v cs now W) : CIs W w0.heap.size g v cs := Sep.p1 hd
theorem Duo.b (hd : Duo LC w0 p S f k g v cs now W) : W.heap[w0.heap.size]? = some (nowO now) := Sep.p2 hd
theorem Duo.stepN (hd : Duo LC w0 p S f k g v cs now W) (hn : Cnt W' w0.heap.size p S' f' k') (ho : Only S W W') (hf : ∀ b, S' b → S b ∨ W.heap.size ≤ b) : Duo LC w0 p S' f' k' g v cs now W' := Sep.step (i' := cntI LC w0.heap.size p S' f' k') hd hn ho hf
theorem Duo.stepM (hd : Duo LC w0 p S f k g v cs now W) (hn : CIs W' w0.heap.size g v' cs') (ho : Only (cfoot g v) W W') (hf : ∀ b, cfoot g v' b → cfoot g v b ∨ W.heap.size ≤ b) : Duo LC w0 p S f k g v' cs' now W' := Sep.step1 (i' := cisI w0.heap.size g v' cs') hd hn ho hf
theorem Duo.more (hd : Duo LC w0 p S f k g v cs now W) (hb : Below W.heap.size W W') (hn : Slt W' w0.heap.size q T t) (hf : ∀ b, T b → W.heap.size ≤ b) (hb2 : Below W'.heap.size W' W2) (hm : SIs W2 w0.heap.size h u) (hh : W'.heap.size ≤ h) : Quad LC LS w0 q T t h u p S f k g v cs now W2 := by
  have h1 := Sep.add (i := sltI LS w0.heap.size q T t) hd hb hn hf
  have h2 := Sep.add (i := sisI w0.heap.size h u) h1 hb2 hm (fun b e => by rw [show b = h from e]; exact hh)
  exact h2.perm (List.Perm.swap _ _ _)
theorem Quad.drew (hd : Quad LC LS w0 q T t h u p S f k g v cs now W) : Quad LC LS w0 q T t h u p S f k g v cs now W.drew := Sep.drew hd
theorem Quad.below (hd : Quad LC LS w0 q T t h u p S f k g v cs now W) (hb : Below W.heap.size W W') : Quad LC LS w0 q T t h u p S f k g v cs now W' := Sep.below hd hb
theorem Quad.lo (hd : Quad LC LS w0 q T t h u p S f k g v cs now W) : Below w0.heap.size w0 W := Sep.lo hd
theorem Quad.hb (hd : Quad LC LS w0 q T t h u p S f k g v cs now W) : w0.heap.size ≤ W.heap.size := Sep.hb hd
theorem Quad.s (hd : Quad LC LS w0 q T t h u p S f k g v cs now W) : Slt W w0.heap.size q T t := Sep.p0 hd
theorem Quad.r (hd : Quad LC LS w0 q T t h u p S f k g v cs now W) : SIs W w0.heap.size h u := Sep.p1 hd
theorem Quad.n (hd : Quad LC LS w0 q T t h u p S f k g v cs now W) : Cnt W w0.heap.size p S f k := Sep.p2 hd
theorem Quad.m (hd : Quad LC LS w0 q T t h u p S f k g v cs now W) : CIs W w0.heap.size g v cs := Sep.p3 hd
theorem Quad.b (hd : Quad LC LS w0 q T t h u p S f k g v cs now W) : W.heap[w0.heap.size]? = some (nowO now) := Sep.ok hd _ (List.mem_cons_of_mem _ (List.mem_cons_of_mem _ (List.mem_cons_of_mem _ (List.mem_cons_of_mem _ (List.mem_cons_self ..)))))
theorem Quad.stepS (hd : Quad LC LS w0 q T t h u p S f k g v cs now W) (hn : Slt W' w0.heap.size q T' t') (ho : Only T W W') (hf : ∀ b, T' b → T b ∨ W.heap.size ≤ b) : Quad LC LS w0 q T' t' h u p S f k g v cs now W' := Sep.step (i' := sltI LS w0.heap.size q T' t') hd hn ho hf
theorem Quad.stepR (hd : Quad LC LS w0 q T t h u p S f k g v cs now W) (hn : SIs W' w0.heap.size h u') (ho : Only (fun k => k = h) W W') : Quad LC LS w0 q T t h u' p S f k g v cs now W' := Sep.step1 (i' := sisI w0.heap.size h u') hd hn ho (fun b e => Or.inl e)
theorem lo_S {a b : Addr} {x y : Value} {B : Nat} (h1 : ∀ W, Below B w0 W → W.cell? a = some x) (h2 : ∀ W, Below B w0 W → W.cell? b = some y) (hl : Below B w0 W) : W.cell? a = some x ∧ W.cell? b = some y ∧ Below B w0 W := ⟨h1 W hl, h2 W hl, hl⟩
end

set_option maxRecDepth 20000 in
set_option maxHeartbeats 8000000 in
theorem walk {Cnt : World → Nat → Value → (Nat → Prop) → (ByteArray → Int) → Nat → Prop} {Slt : World → Nat → Value → (Nat → Prop) → St → Prop} (LC : Count.Core Cnt) (CR : Count.RaiseLaw Cnt) (LS : Slot.Core Slt) (SS : Slot.StartLaw Slt) (SG : Slot.GoodLaw Slt) (SA : Slot.AtLaw Slt) (UM : Update.MayLaw Cnt) (UD : Update.DoLaw Cnt Slt)
    (root : Int) (a1 a2 a3 a5 a6 : Option Addr) (n1 n2 n3 n5 n6 c1 c2 c3 c5 c6 : Nat) (l : List (Int × Int × Int)) (ns : List ByteArray) (vs : List Int) (now : Sg) (xs : List Sg) (ds : List Int) (w : World)
    (hn1 : n1 = l.length) (hm1 : n1 ≤ maxLen) (hr1 : RRow 3 certV w a1 l) (hn2 : n2 = ns.length) (hm2 : n2 ≤ maxLen) (hr2 : RRow 1 strV w a2 ns) (hs2 : ∀ s ∈ ns, s.size ≤ 140737488351232) (hn3 : n3 = vs.length) (hm3 : n3 ≤ maxLen) (hr3 : Row w a3 vs) (hs : szS now)
    (hn5 : n5 = xs.length) (hm5 : n5 ≤ maxLen) (hr5 : RRow 5 sgV w a5 xs) (hs5 : ∀ s ∈ xs, szS s) (hn6 : n6 = ds.length) (hm6 : n6 ≤ maxLen) (hr6 : Row w a6 ds) (hh : Has w) (hg : As.Handle w) :
    Calls Tryz.prog 3 #[.int .i64 root, .slice a1 n1 c1, .slice a2 n2 c2, .slice a3 n3 c3, sgA now, .slice a5 n5 c5, .slice a6 n6 c6] w fun e w' => e = .returned (.bool true) ∧ Below w.heap.size w w' := by
  have HH := hide (fun (W : World) (h : Below w.heap.size w W) => hh.below h)
  have HG := hide (fun (W : World) (h : Below w.heap.size w W) => hg.below h)
  have HLC := hide LC
  have HCR := hide CR
  have HLS := hide LS
  have HSS := hide SS
  have HSG := hide SG
  have HSA := hide SA
  have HUM := hide UM
  have HUD := hide UD
  have HSZ := hide hs
  have HN1 := hide hn1
  have HM1 := hide hm1
  have HR1 := hide hr1
  have HN2 := hide hn2
  have HR2 := hide hr2
  have HS2 := hide hs2
  have HN3 := hide hn3
  have HR3 := hide hr3
  have HN5 := hide hn5
  have HR5 := hide hr5
  have HS5 := hide hs5
  have HN6 := hide hn6
  have HR6 := hide hr6
  have hm2' : n2 ≤ 9223372036854775807 := by unfold maxLen at hm2; omega
  have hm3' : n3 ≤ 9223372036854775807 := by unfold maxLen at hm3; omega
  have hm5' : n5 ≤ 9223372036854775807 := by unfold maxLen at hm5; omega
  have hm6' : n6 ≤ 9223372036854775807 := by unfold maxLen at hm6; omega
  have HB := hide (below_new w (nowO now))
  have HP := hide (blk_new w (nowO now))
  have NC := hide (fun (W : World) (h : w.heap.size ≤ W.heap.size) => LC.new W w.heap.size h)
  have NR := hide (fun (W : World) => new_any now W)
  have IC := hide (fun (W : World) => Image.check_any now.nm now.cd now.v W hs.1 hs.2)
  unfold imgC at IC
  unfold nowO at HB HP
  unfold sgA at NR ⊢
  clear hh hg LC CR LS SS SG SA UM UD hs hn1 hm1 hr1 hn2 hm2 hr2 hs2 hn3 hm3 hr3 hn5 hm5 hr5 hs5 hn6 hm6 hr6
  go_enter Tryz.func3, Tryz.ntmps3
  go_wp2_with (fail)
  refine (NC.out _ HB.out.size).mono ?_
  rintro e w1 ⟨p, S0, rfl, hn1, hf1, hb1⟩
  have HD0 : Hid (Duo HLC.out w p S0 (ofC []) ([] : List (ByteArray × Int)).length w1.heap.size (.slice none 0 0) [] now (w1.alloc (.cells #[.slice none 0 0] 37))) := by
    have e0 : Sep w w.heap.size [blkI w.heap.size w.heap.size (Nat.le_refl _) (nowO now)] (w.alloc (nowO now)) := (Sep.nil (Below.refl _ _) (Nat.le_refl _)).alloc (nowO now)
    have e1 := Sep.add (i := cntI HLC.out w.heap.size p S0 (fun _ => 0) 0) e0 hb1 hn1 hf1
    have e2 := Sep.add (i := cisI w.heap.size w1.heap.size (.slice none 0 0) []) e1 (below_new w1 (.cells #[.slice none 0 0] 37)) ⟨blk_new _ _, OwnR.nil _ _ _, by simp [Value.ownBlock], e1.hb, by simp, by simp, by simp⟩ (fun b hb => by
      rcases hb with h | h
      · omega
      · cases h)
    exact e2.perm (List.Perm.swap _ _ _)
  clear hn1 hf1 hb1 HB HP NC
  go_upto_block 0 with (fail)
  generalize w1.heap.size = g at *
  go_cut [17] from 31 to 66 (fun _ w' => ∃ (v : Value) (S : Nat → Prop) (cs : List (ByteArray × Int)), Hid (Duo HLC.out w p S (ofC cs) cs.length g v cs now w'))
  case first =>
    go_wp2
    go_loopw [17] (fun s17 wr => ∃ (i : Nat) (v : Value) (S : Nat → Prop) (cs : List (ByteArray × Int)), i ≤ 20 ∧ s17 = .int .i64 i ∧ Hid (Duo HLC.out w p S (ofC cs) cs.length g v cs now wr)) (fun s17 _ => 20 - (intOf s17).toNat)
    case atStart => exact ⟨0, _, S0, [], by omega, rfl, HD0.out⟩
    case round =>
      obtain ⟨i, v, S, cs, h20, rfl, HD⟩ := hrel
      clear HD0
      by_cases hlt : i < n2 ∧ i < n3 ∧ i < 20
      · obtain ⟨i2, i3, i20⟩ := hlt
        have i2z : (i : Int) < n2 := by omega
        have i3z : (i : Int) < n3 := by omega
        have i20z : (i : Int) < 20 := by omega
        obtain ⟨nm, hnm⟩ : ∃ y, ns[i]? = some y := ⟨ns[i]'(by have := HN2.out; omega), List.getElem?_eq_getElem (by have := HN2.out; omega)⟩
        obtain ⟨x, hx⟩ : ∃ y, vs[i]? = some y := ⟨vs[i]'(by have := HN3.out; omega), List.getElem?_eq_getElem (by have := HN3.out; omega)⟩
        have HNM := hide (HS2.out nm (List.mem_of_getElem? hnm))
        obtain ⟨b2, o2, rfl, _⟩ := HR2.out.at hnm
        have HC2 := hide (show ∀ W, Below w.heap.size w W → W.cell? ⟨b2, o2 + i, none⟩ = some (.string nm) from fun W hb => by
          obtain ⟨b', o', e, h⟩ := (HR2.out.below hb).at hnm
          cases e
          have := h 0 _ rfl
          simpa only [Nat.mul_one, Nat.add_zero] using this)
        obtain ⟨b3, o3, rfl, _⟩ : ∃ b off, a3 = some ⟨b, off, none⟩ ∧ w.cell? ⟨b, off + i, none⟩ = some (.int .i64 x) := by
          rcases HR3.out with h | ⟨b, off, h1, h2⟩
          · rw [h] at hx; simp at hx
          · exact ⟨b, off, h1, h2 i x hx⟩
        have HC3 := hide (show ∀ W, Below w.heap.size w W → W.cell? ⟨b3, o3 + i, none⟩ = some (.int .i64 x) from fun W hb => by
          rcases HR3.out.below hb with h | ⟨b, off, h1, h2⟩
          · rw [h] at hx; simp at hx
          · cases h1; exact h2 i x hx)
        clear hnm hx
        have hq2 := HC2.out _ HD.out.lo
        have hq3 := HC3.out _ HD.out.lo
        have hDD := HD.out
        have hlo := HD.out.lo
        go_wp2_with (fail)
        go_region_held3 (fun W => W.cell? ⟨b2, o2 + i, none⟩ = some (.string nm) ∧ W.cell? ⟨b3, o3 + i, none⟩ = some (.int .i64 x) ∧ Below w.heap.size w W)
          (exact lo_S HC2.out HC3.out (by repeat (first | assumption | apply Below.drew)))
          ((go_at_call 5; refine (HCR.out p S (ofC cs) cs.length nm x _ w.heap.size (Duo.n (by repeat (first | assumption | apply Duo.drew))) HNM.out (Duo.hb (by repeat (first | assumption | apply Duo.drew)))).mono ?_; rintro e w5 ⟨S5, rfl, h51, h52, h53⟩; have hD5 : Duo HLC.out w p S5 (raiF (ofC cs) cs.length nm x) (raiK (ofC cs) cs.length nm x) g v cs now w5 := Duo.stepN (by repeat (first | assumption | apply Duo.drew)) h51 h52 h53; have hlo5 := hD5.lo; clear h51 h52 h53; have hq52 := HC2.out _ hlo5; have hq53 := HC3.out _ hlo5))
        clear hq2 hq3 hDD hlo HD
        go_wp2_with (fail)
        go_region_held3 (fun W => W.cell? ⟨b2, o2 + i, none⟩ = some (.string nm) ∧ W.cell? ⟨b3, o3 + i, none⟩ = some (.int .i64 x) ∧ Below w.heap.size w W)
          (exact lo_S HC2.out HC3.out (by repeat (first | assumption | apply Below.drew)))
          ((go_at_call 6; refine (raise_any g v cs nm x _ w.heap.size (Duo.m (by repeat (first | assumption | apply Duo.drew))) HNM.out (Duo.hb (by repeat (first | assumption | apply Duo.drew)))).mono ?_; rintro e w6 ⟨rfl, v6, cs6, h61, h62, h63, h64, h65⟩; have hD6 : Duo HLC.out w p S5 (raiF (ofC cs) cs.length nm x) (raiK (ofC cs) cs.length nm x) g v6 cs6 now w6 := Duo.stepM (by repeat (first | assumption | apply Duo.drew)) h61 h64 h65; rw [← h62, ← h63] at hD6; have hlo6 := hD6.lo; clear h61 h62 h63 h64 h65; have hq62 := HC2.out _ hlo6; have hq63 := HC3.out _ hlo6))
        go_wp2
        go_roundw
        case rel => exact ⟨i + 1, v6, S5, cs6, by omega, by go_num, by repeat (first | assumption | apply Duo.drew)⟩
        case measure => simp [intOf]; omega
      · have hq := hlt
        clear hlt
        by_cases h2 : i < n2
        · have h2z : (i : Int) < n2 := by omega
          by_cases h3 : i < n3
          · have h3z : (i : Int) < n3 := by omega
            have h4z : ¬ (i : Int) < 20 := by omega
            clear hq
            go_wp2
            go_meet
            exact ⟨v, S, cs, HD.out⟩
          · have h3z : ¬ (i : Int) < n3 := by omega
            clear hq
            go_wp2
            go_meet
            exact ⟨v, S, cs, HD.out⟩
        · have h2z : ¬ (i : Int) < n2 := by omega
          clear hq
          go_wp2
          go_meet
          exact ⟨v, S, cs, HD.out⟩
  case rest =>
  obtain ⟨v, S, cs, HD⟩ := hcut
  clear HD0
  have hbk := HD.out.b
  unfold nowO at hbk
  obtain ⟨x0, x1, x2, x3, x4⟩ := cells5 hbk
  by_cases hE : sgE now = 0
  · have NW := hide (fun (W : World) (h : w.heap.size ≤ W.heap.size) => HLS.out.new now W w.heap.size HSZ.out hE h)
    unfold sgA at NW
    go_wp2_with (fail)
    refine (NW.out _ HD.out.hb).mono ?_
    rintro e w3 ⟨q, T0, rfl, hn3, hf3, hb3⟩
    have HB3 := hide hb3
    have HN0 := hide hn3
    have HF0 := hide hf3
    have hbk3 := blk_below hbk hb3
    clear hb3 hn3 hf3 x0 x1 x2 x3 x4 hbk NW
    obtain ⟨x0, x1, x2, x3, x4⟩ := cells5 hbk3
    go_wp2_with (fail)
    refine (NR.out _).mono ?_
    rintro e w4 ⟨h, rfl, hm4, hg4, hb4⟩
    have HQ0 : Hid (Quad HLC.out HLS.out w q T0 (newT now) h (newT now) p S (ofC cs) cs.length g v cs now w4) := Duo.more HD.out HB3.out HN0.out HF0.out hb4 ⟨hm4.1, Nat.le_trans HD.out.hb (Nat.le_trans HB3.out.size hg4)⟩ hg4
    clear hm4 hg4 hb4 HB3 HN0 HF0 HD x0 x1 x2 x3 x4 hbk3 NR IC
    go_upto_block 2 with (fail)
    go_cut [21] from 80 to 203 (fun _ w' => Hid (Below w.heap.size w w'))
    case first =>
      go_wp2
      go_loopw [21, 22, 23, 24, 25, 26, 27] (fun s21 _ _ _ _ _ _ wr => ∃ (i : Nat) (T : Nat → Prop) (t : St), i ≤ 20 ∧ s21 = .int .i64 i ∧ Hid (Quad HLC.out HLS.out w q T t h t p S (ofC cs) cs.length g v cs now wr) ∧ Hid (szT t)) (fun s21 _ _ _ _ _ _ _ => 20 - (intOf s21).toNat)
      case atStart => exact ⟨0, T0, newT now, by omega, rfl, HQ0.out, szT.new HSZ.out⟩
      case round =>
        obtain ⟨i, T, t, h20, rfl, HD, HZT⟩ := hrel
        clear HQ0
        by_cases hlt : i < n5 ∧ i < 20
        · obtain ⟨i5, i20⟩ := hlt
          have i5z : (i : Int) < n5 := by omega
          have i20z : (i : Int) < 20 := by omega
          obtain ⟨⟨nm, vv, cd, pp, aa⟩, hsk⟩ : ∃ y, xs[i]? = some y := ⟨xs[i]'(by have := HN5.out; omega), List.getElem?_eq_getElem (by have := HN5.out; omega)⟩
          have HSX := hide (HS5.out _ (List.mem_of_getElem? hsk))
          obtain ⟨b5, o5, rfl, _⟩ := HR5.out.at hsk
          have HC5 := hide (show ∀ W, Below w.heap.size w W → W.cell? ⟨b5, o5 + i * 5, none⟩ = some (.string nm) ∧ W.cell? ⟨b5, o5 + i * 5 + 1, none⟩ = some (.int .i64 vv) ∧ W.cell? ⟨b5, o5 + i * 5 + 2, none⟩ = some (.string cd) ∧ W.cell? ⟨b5, o5 + i * 5 + 3, none⟩ = some (.int .i64 pp) ∧ W.cell? ⟨b5, o5 + i * 5 + 4, none⟩ = some (.int .i64 aa) from fun W hb => by
            obtain ⟨b', o', e, hc⟩ := (HR5.out.below hb).at hsk
            cases e
            have l0 := hc 0 (.string nm) rfl
            simp only [Nat.add_zero] at l0
            exact ⟨l0, hc 1 (.int .i64 vv) rfl, hc 2 (.string cd) rfl, hc 3 (.int .i64 pp) rfl, hc 4 (.int .i64 aa) rfl⟩)
          clear hsk
          have KS := hide (fun (W : World) (hd : Quad HLC.out HLS.out w q T t h t p S (ofC cs) cs.length g v cs now W) => show (W.cell? ⟨w.heap.size, 0, none⟩ = some (.string now.nm) ∧ W.cell? ⟨w.heap.size, 1, none⟩ = some (.int .i64 now.v) ∧ W.cell? ⟨w.heap.size, 2, none⟩ = some (.string now.cd) ∧ W.cell? ⟨w.heap.size, 3, none⟩ = some (.int .i64 now.p) ∧ W.cell? ⟨w.heap.size, 4, none⟩ = some (.int .i64 now.a)) ∧ (W.cell? ⟨b5, o5 + i * 5, none⟩ = some (.string nm) ∧ W.cell? ⟨b5, o5 + i * 5 + 1, none⟩ = some (.int .i64 vv) ∧ W.cell? ⟨b5, o5 + i * 5 + 2, none⟩ = some (.string cd) ∧ W.cell? ⟨b5, o5 + i * 5 + 3, none⟩ = some (.int .i64 pp) ∧ W.cell? ⟨b5, o5 + i * 5 + 4, none⟩ = some (.int .i64 aa)) ∧ Quad HLC.out HLS.out w q T t h t p S (ofC cs) cs.length g v cs now W from by
            have hbk := hd.b
            unfold nowO at hbk
            exact ⟨cells5 hbk, HC5.out W hd.lo, hd⟩)
          have MY := hide (fun (W : World) (hd : Quad HLC.out HLS.out w q T t h t p S (ofC cs) cs.length g v cs now W) => HUM.out root a1 l n1 c1 p S (ofC cs) cs.length now ⟨nm, vv, cd, pp, aa⟩ W w.heap.size HN1.out HM1.out (HR1.out.below hd.lo) (HH.out W hd.lo) hd.n HSZ.out HSX.out)
          have MR := hide (fun (W : World) (hd : Quad HLC.out HLS.out w q T t h t p S (ofC cs) cs.length g v cs now W) => UpdRef.may_any root a1 l n1 c1 g v cs now ⟨nm, vv, cd, pp, aa⟩ W w.heap.size HN1.out HM1.out (HR1.out.below hd.lo) hd.m HSZ.out HSX.out)
          have DY := hide (fun (W : World) (hd : Quad HLC.out HLS.out w q T t h t p S (ofC cs) cs.length g v cs now W) => HUD.out root a1 l n1 c1 p S (ofC cs) cs.length q T t ⟨nm, vv, cd, pp, aa⟩ W w.heap.size HN1.out HM1.out (HR1.out.below hd.lo) (HH.out W hd.lo) hd.n hd.s HZT.out HSX.out hd.hb)
          have DR := hide (fun (W : World) (T' : Nat → Prop) (t' : St) (hd : Quad HLC.out HLS.out w q T' t' h t p S (ofC cs) cs.length g v cs now W) => UpdRef.do_any root a1 l n1 c1 g v cs h t ⟨nm, vv, cd, pp, aa⟩ W w.heap.size HN1.out HM1.out (HR1.out.below hd.lo) hd.m hd.r HZT.out HSX.out)
          have HZ1 := hide (szT.doT (root := root) (l := l) (f := ofC cs) HZT.out HSX.out)
          unfold sgA at MY MR DY DR
          simp only [] at MY MR DY DR
          generalize updE root l (ofC cs) now ⟨nm, vv, cd, pp, aa⟩ = ue at *
          generalize doE root l (ofC cs) t ⟨nm, vv, cd, pp, aa⟩ = de at *
          generalize doT root l (ofC cs) t ⟨nm, vv, cd, pp, aa⟩ = t1 at *
          have hDD := HD.out
          obtain ⟨⟨x0, x1, x2, x3, x4⟩, ⟨y0, y1, y2, y3, y4⟩, _⟩ := KS.out _ hDD
          go_wp2_with (fail)
          go_region_held3 (fun W => (W.cell? ⟨w.heap.size, 0, none⟩ = some (.string now.nm) ∧ W.cell? ⟨w.heap.size, 1, none⟩ = some (.int .i64 now.v) ∧ W.cell? ⟨w.heap.size, 2, none⟩ = some (.string now.cd) ∧ W.cell? ⟨w.heap.size, 3, none⟩ = some (.int .i64 now.p) ∧ W.cell? ⟨w.heap.size, 4, none⟩ = some (.int .i64 now.a)) ∧ (W.cell? ⟨b5, o5 + i * 5, none⟩ = some (.string nm) ∧ W.cell? ⟨b5, o5 + i * 5 + 1, none⟩ = some (.int .i64 vv) ∧ W.cell? ⟨b5, o5 + i * 5 + 2, none⟩ = some (.string cd) ∧ W.cell? ⟨b5, o5 + i * 5 + 3, none⟩ = some (.int .i64 pp) ∧ W.cell? ⟨b5, o5 + i * 5 + 4, none⟩ = some (.int .i64 aa)) ∧ Quad HLC.out HLS.out w q T t h t p S (ofC cs) cs.length g v cs now W)
            (exact KS.out _ (by repeat (first | assumption | apply Quad.drew)))
            (first
              | (go_at_call 11; refine (MY.out _ (by repeat (first | assumption | apply Quad.drew))).mono ?_; rintro e w5 ⟨rfl, hb5⟩; have hD5 : Quad HLC.out HLS.out w q T t h t p S (ofC cs) cs.length g v cs now w5 := Quad.below (by repeat (first | assumption | apply Quad.drew)) hb5; clear hb5; obtain ⟨⟨x50, x51, x52, x53, x54⟩, ⟨y50, y51, y52, y53, y54⟩, _⟩ := KS.out _ hD5)
              | (go_at_call 12; refine (MR.out _ (by repeat (first | assumption | apply Quad.drew))).mono ?_; rintro e w6 ⟨rfl, hb6⟩; have hD6 : Quad HLC.out HLS.out w q T t h t p S (ofC cs) cs.length g v cs now w6 := Quad.below (by repeat (first | assumption | apply Quad.drew)) hb6; clear hb6; obtain ⟨⟨x60, x61, x62, x63, x64⟩, ⟨y60, y61, y62, y63, y64⟩, _⟩ := KS.out _ hD6)
              | (go_at_call 10; refine (As.same_is _ _ _ rfl (HG.out _ (Quad.lo (by repeat (first | assumption | apply Quad.drew))))).mono ?_; rintro e w7 ⟨rfl, hb7⟩; have hD7 : Quad HLC.out HLS.out w q T t h t p S (ofC cs) cs.length g v cs now w7 := Quad.below (by repeat (first | assumption | apply Quad.drew)) hb7; clear hb7; obtain ⟨⟨x70, x71, x72, x73, x74⟩, ⟨y70, y71, y72, y73, y74⟩, _⟩ := KS.out _ hD7))
          clear hDD x0 x1 x2 x3 x4 y0 y1 y2 y3 y4 hD5 x50 x51 x52 x53 x54 y50 y51 y52 y53 y54 hD6 x60 x61 x62 x63 x64 y60 y61 y62 y63 y64 x70 x71 x72 x73 x74 HD KS MY MR
          have KL := hide (fun (W : World) (hb : Below w.heap.size w W) => show (W.cell? ⟨b5, o5 + i * 5, none⟩ = some (.string nm) ∧ W.cell? ⟨b5, o5 + i * 5 + 1, none⟩ = some (.int .i64 vv) ∧ W.cell? ⟨b5, o5 + i * 5 + 2, none⟩ = some (.string cd) ∧ W.cell? ⟨b5, o5 + i * 5 + 3, none⟩ = some (.int .i64 pp) ∧ W.cell? ⟨b5, o5 + i * 5 + 4, none⟩ = some (.int .i64 aa)) ∧ Below w.heap.size w W from ⟨HC5.out W hb, hb⟩)
          have hlo := hD7.lo
          go_wp2_with (fail)
          go_region_held3 (fun W => (W.cell? ⟨b5, o5 + i * 5, none⟩ = some (.string nm) ∧ W.cell? ⟨b5, o5 + i * 5 + 1, none⟩ = some (.int .i64 vv) ∧ W.cell? ⟨b5, o5 + i * 5 + 2, none⟩ = some (.string cd) ∧ W.cell? ⟨b5, o5 + i * 5 + 3, none⟩ = some (.int .i64 pp) ∧ W.cell? ⟨b5, o5 + i * 5 + 4, none⟩ = some (.int .i64 aa)) ∧ Below w.heap.size w W)
            (exact KL.out _ (by repeat (first | assumption | apply Below.drew)))
            (first
              | (go_at_call 13; refine (DY.out _ (by repeat (first | assumption | apply Quad.drew))).mono ?_; rintro e w8 ⟨T8, rfl, h81, h82, h83⟩; have hD8 : Quad HLC.out HLS.out w q T8 t1 h t p S (ofC cs) cs.length g v cs now w8 := Quad.stepS (by repeat (first | assumption | apply Quad.drew)) h81 h82 h83; have hlo8 := hD8.lo; clear h81 h82 h83; obtain ⟨⟨y80, y81, y82, y83, y84⟩, _⟩ := KL.out _ hlo8)
              | (go_at_call 14; refine (DR.out _ T8 t1 (by repeat (first | assumption | apply Quad.drew))).mono ?_; rintro e w9 ⟨rfl, h91, h92⟩; have hD9 : Quad HLC.out HLS.out w q T8 t1 h t1 p S (ofC cs) cs.length g v cs now w9 := Quad.stepR (by repeat (first | assumption | apply Quad.drew)) h91 h92; have hlo9 := hD9.lo; clear h91 h92; obtain ⟨⟨y90, y91, y92, y93, y94⟩, _⟩ := KL.out _ hlo9)
              | (go_at_call 10; refine (As.same_is _ _ _ rfl (HG.out _ (by repeat (first | assumption | apply Below.drew)))).mono ?_; rintro e w10 ⟨rfl, hb10⟩; have hD10 : Quad HLC.out HLS.out w q T8 t1 h t1 p S (ofC cs) cs.length g v cs now w10 := Quad.below (by repeat (first | assumption | apply Quad.drew)) hb10; have hlo10 := hD10.lo; clear hb10; obtain ⟨⟨z80, z81, z82, z83, z84⟩, _⟩ := KL.out _ hlo10))
          have HD1 := hide hD10
          clear hlo y70 y71 y72 y73 y74 hD7 hD8 hlo8 y80 y81 y82 y83 y84 hD9 hlo9 y90 y91 y92 y93 y94 hD10 hlo10 z80 z81 z82 z83 z84 DY DR KL HZT
          go_upto_region 19 with (fail)
          go_cut [144] from 80 to 203 (fun sx w' => ∃ b : Bool, sx = .bool b ∧ Hid (Quad HLC.out HLS.out w q T8 t1 h t1 p S (ofC cs) cs.length g v cs now w'))
          case first =>
            by_cases h6 : i < n6
            · have h6z : (i : Int) < n6 := by omega
              obtain ⟨d, hd⟩ : ∃ y, ds[i]? = some y := ⟨ds[i]'(by have := HN6.out; omega), List.getElem?_eq_getElem (by have := HN6.out; omega)⟩
              obtain ⟨b6, o6, rfl, hc6⟩ : ∃ b off, a6 = some ⟨b, off, none⟩ ∧ World.cell? _ ⟨b, off + i, none⟩ = some (.int .i64 d) := by
                rcases HR6.out.below HD1.out.lo with h | ⟨b, off, h1, h2⟩
                · rw [h] at hd; simp at hd
                · exact ⟨b, off, h1, h2 i d hd⟩
              clear hd
              go_wp2
              go_meet
              exact ⟨_, rfl, HD1.out⟩
            · have h6z : ¬ (i : Int) < n6 := by omega
              clear h6
              go_wp2
              go_meet
              exact ⟨false, rfl, HD1.out⟩
          case rest =>
          obtain ⟨b, rfl, HD2⟩ := hcut
          clear HD1
          go_upto_if 144 with (fail)
          go_cut [14] from 80 to 203 (fun _ w' => ∃ (T : Nat → Prop) (t : St), Hid (Quad HLC.out HLS.out w q T t h t p S (ofC cs) cs.length g v cs now w') ∧ Hid (szT t))
          case first =>
            cases b with
            | false =>
              go_wp2
              go_meet
              exact ⟨T8, t1, HD2.out, HZ1.out⟩
            | true =>
              have OK := hide (HLS.out.ok HD2.out.s)
              have ST := hide (HSS.out q T8 t1 _ w.heap.size HD2.out.s HD2.out.hb)
              unfold sgA at ST
              go_wp2_with (fail)
              refine ST.out.mono ?_
              rintro e w11 ⟨T11, rfl, h1, h2, h3⟩
              have HD3 := hide (HD2.out.stepS h1 h2 h3)
              clear h1 h2 h3 ST HD2
              have SR := hide (start_any h t1 _ w.heap.size HD3.out.r OK.out.x OK.out.y)
              unfold sgA at SR
              go_wp2_with (fail)
              refine SR.out.mono ?_
              rintro e w12 ⟨rfl, h1, h2⟩
              have HD4 := hide (HD3.out.stepR h1 h2)
              have HZ4 := hide HZ1.out.start
              clear h1 h2 SR HD3 OK
              go_wp2
              go_meet
              exact ⟨T11, startT t1, HD4.out, HZ4.out⟩
          case rest =>
          obtain ⟨T2, t2, HD3, HZ2⟩ := hcut
          clear HD2 HZ1
          go_upto_region 22 with (fail)
          go_cut [160] from 80 to 203 (fun sx w' => ∃ b : Bool, sx = .bool b ∧ Hid (Quad HLC.out HLS.out w q T2 t2 h t2 p S (ofC cs) cs.length g v cs now w'))
          case first =>
            by_cases h6 : i < n6
            · have h6z : (i : Int) < n6 := by omega
              obtain ⟨d, hd⟩ : ∃ y, ds[i]? = some y := ⟨ds[i]'(by have := HN6.out; omega), List.getElem?_eq_getElem (by have := HN6.out; omega)⟩
              obtain ⟨b6, o6, rfl, hc6⟩ : ∃ b off, a6 = some ⟨b, off, none⟩ ∧ World.cell? _ ⟨b, off + i, none⟩ = some (.int .i64 d) := by
                rcases HR6.out.below HD3.out.lo with h | ⟨b, off, h1, h2⟩
                · rw [h] at hd; simp at hd
                · exact ⟨b, off, h1, h2 i d hd⟩
              clear hd
              go_wp2
              go_meet
              exact ⟨_, rfl, HD3.out⟩
            · have h6z : ¬ (i : Int) < n6 := by omega
              clear h6
              go_wp2
              go_meet
              exact ⟨false, rfl, HD3.out⟩
          case rest =>
          obtain ⟨b', rfl, HD4⟩ := hcut
          clear HD3
          go_upto_if 160 with (fail)
          go_cut [23] from 80 to 203 (fun s23 w' => s23 = .bool true ∧ ∃ (T : Nat → Prop) (t : St), Hid (Quad HLC.out HLS.out w q T t h t p S (ofC cs) cs.length g v cs now w') ∧ Hid (szT t))
          case first =>
            cases b' with
            | false =>
              go_wp2
              go_meet
              exact ⟨rfl, T2, t2, HD4.out, HZ2.out⟩
            | true =>
              have GD := hide (HSG.out q T2 t2 _ w.heap.size HD4.out.s HD4.out.hb)
              go_wp2_with (fail)
              refine GD.out.mono ?_
              rintro e w11 ⟨T11, rfl, h1, h2, h3⟩
              have HD5 := hide (HD4.out.stepS h1 h2 h3)
              clear h1 h2 h3 GD HD4
              have GR := hide (good_any h t2 _ w.heap.size HD5.out.r)
              go_wp2_with (fail)
              refine GR.out.mono ?_
              rintro e w12 ⟨rfl, h1, h2⟩
              have HD6 := hide (HD5.out.stepR h1 h2)
              have HZ6 := hide HZ2.out.good
              clear h1 h2 GR HD5
              go_wp2_with (fail)
              refine (As.same_is _ _ _ rfl (HG.out _ HD6.out.lo)).mono ?_
              rintro e w13 ⟨rfl, hb13⟩
              have HD7 := hide (HD6.out.below hb13)
              clear hb13 HD6
              go_wp2
              go_meet
              exact ⟨rfl, T11, goodT t2, HD7.out, HZ6.out⟩
          case rest =>
          obtain ⟨rfl, T3, t3, HD5, HZ3⟩ := hcut
          clear HD4 HZ2
          have A0 := hide (fun (W : World) (hd : Slt W w.heap.size q T3 t3) => HSA.out q T3 t3 0 W w.heap.size hd)
          have A1 := hide (fun (W : World) (hd : Slt W w.heap.size q T3 t3) => HSA.out q T3 t3 1 W w.heap.size hd)
          rw [show atL t3 0 = t3.x from rfl, show atE 0 = 0 from rfl, errV_zero] at A0
          rw [show atL t3 1 = t3.y from rfl, show atE 1 = 0 from rfl, errV_zero] at A1
          unfold slA at A0 A1
          go_wp2_with (fail)
          refine (A0.out _ HD5.out.s).mono ?_
          rintro e w11 ⟨rfl, hb11⟩
          have hq11 := below_on hb11 (below_new w11 (.cells #[.string t3.x.s.nm, .int .i64 t3.x.s.v, .string t3.x.s.cd, .int .i64 t3.x.s.p, .int .i64 t3.x.s.a, .bool t3.x.full, .int .i64 t3.x.tries, .bool t3.x.good] 59))
          have HD6 := hide (HD5.out.below hq11)
          have HA6 := hide (blk_new w11 (.cells #[.string t3.x.s.nm, .int .i64 t3.x.s.v, .string t3.x.s.cd, .int .i64 t3.x.s.p, .int .i64 t3.x.s.a, .bool t3.x.full, .int .i64 t3.x.tries, .bool t3.x.good] 59))
          clear hb11 hq11 HD5 A0
          go_wp2_with (fail)
          refine (A1.out _ HD6.out.s).mono ?_
          rintro e w12 ⟨rfl, hb12⟩
          have HD7 := hide (HD6.out.below hb12)
          have ha := blk_below HA6.out hb12
          have hla := blk_lt ha
          have hlh := blk_lt HD7.out.r.1
          obtain ⟨⟨k0, k1, k2, k3, k4, k5, k6, k7⟩, ⟨m0, m1, m2, m3, m4, m5, m6, m7⟩, _⟩ := cells8 HD7.out.r.1
          obtain ⟨j0, j1, j2, j3, j4, j5, j6, j7⟩ := Slot.eight ha
          have HD8 := hide (HD7.out.below (below_new w12 (.cells #[.string t3.y.s.nm, .int .i64 t3.y.s.v, .string t3.y.s.cd, .int .i64 t3.y.s.p, .int .i64 t3.y.s.a, .bool t3.y.full, .int .i64 t3.y.tries, .bool t3.y.good] 59)))
          clear hb12 HD6 HA6 ha A1 HD7
          go_wp2_with (fail)
          go_quiet (fail)
          go_wp2
          go_roundw
          case rel => exact ⟨i + 1, T3, t3, by omega, by go_num, Quad.below HD8.out (quiet_below _ _), HZ3.out⟩
          case measure => simp [intOf]; omega
        · have hq := hlt
          clear hlt
          by_cases h5 : i < n5
          · have h5z : (i : Int) < n5 := by omega
            have h6z : ¬ (i : Int) < 20 := by omega
            clear hq
            go_wp2
            go_meet
            exact HD.out.lo
          · have h5z : ¬ (i : Int) < n5 := by omega
            clear hq
            go_wp2
            go_meet
            exact HD.out.lo
    case rest =>
    have HL := hide hcut.out
    go_wp2
    go_ret
    exact ⟨rfl, HL.out⟩
  · have NW := hide (fun (W : World) => HLS.out.newNo now W HSZ.out hE)
    have HX := hide (errV_ne (T := 77) hE)
    have HX2 := hide (errV_ne (T := 77) (show ¬ imgE now.nm now.v now.cd = 0 from hE))
    unfold sgA at NW
    rw [HX.out] at NW
    rw [HX2.out] at IC
    generalize sgE now = se at *
    generalize imgE now.nm now.v now.cd = ie at *
    clear hE HX HX2
    go_wp2_with (fail)
    refine (NW.out _).mono ?_
    rintro e w3 ⟨rfl, hb3⟩
    have HD3 := hide (HD.out.below hb3)
    clear hb3 x0 x1 x2 x3 x4 hbk NW HD
    have hbk := HD3.out.b
    unfold nowO at hbk
    obtain ⟨x0, x1, x2, x3, x4⟩ := cells5 hbk
    go_wp2_with (fail)
    refine (IC.out _).mono ?_
    rintro e w4 ⟨rfl, hb4⟩
    have HD4 := hide (HD3.out.below hb4)
    clear hb4 x0 x1 x2 x3 x4 hbk HD3
    go_wp2
    go_ret
    exact ⟨rfl, HD4.out.lo⟩
end Go.Proofs.YtojdaifnljghkaaGreatDoor.UpdatePlays
