/-
  Contract of stairlaw3.alike: of a log and counts that are alike it returns true, and memory that was there stays as it was.
-/
import Derived.Test.YtgnpffkfbacejaaGreatDoorQLogOb
import Derived.Test.YtgnpffkfbacejaaGreatDoorQCntRef2
import Derived.Test.YtgnpffkfbacejaaGreatDoorPack1
import Derived.Test.YtgnpffkfbacejaaGreatDoorQAs
namespace Go.Proofs.YtgnpffkfbacejaaGreatDoor.Log
open Go.ChangeShapes Go.WideShapes Go.ChangeAt Go.RowKit
open Go.Proofs.YtgnpffkfbacejaaGreatDoor.M
set_option linter.unusedVariables false

theorem errV_some {T : TypeId} {k : Int} (h : ¬ k = 0) : errV T k = .iface T (.int .i64 k) := if_neg h
def txtV (s : ByteArray) : List Value := [.string s]
set_option maxRecDepth 20000 in
set_option maxHeartbeats 4000000 in
theorem alike_any {Lg : World → Nat → Value → (Nat → Prop) → LS → Prop} (LL : Core Lg) (LE : LeastLaw Lg) (p : Value) (S : Nat → Prop) (j : LS) (g : Nat) (v : Value) (cs : List (ByteArray × Int)) (a0 : Option Addr) (n0 c0 : Nat) (ns : List ByteArray) (w : World) (B : Nat)
    (hl : Lg w B p S j) (hc : CntRef.CIs w B g v cs) (hf : j.f = CntRef.ofC cs) (hn0 : n0 = ns.length) (hm0 : n0 ≤ maxLen) (hr0 : RRow 1 txtV w a0 ns) (hs0 : ∀ s ∈ ns, s.size ≤ 140737488351232) (hg : As.Handle w) :
    Calls Tryz.prog 16 #[p, .pointer (some ⟨g, 0, none⟩), .slice a0 n0 c0] w fun e w' => e = .returned (.bool true) ∧ Below w.heap.size w w' := by
  have HG := hide (fun (W : World) (h : Below w.heap.size w W) => hg.below h)
  have LA := hide (fun (nm : ByteArray) (hn : nm.size ≤ 140737488351232) (W : World) (h : Below w.heap.size w W) => LE p S j nm W B (LL.below hl h) hn)
  have OF := hide (fun (nm : ByteArray) (W : World) (h : Below w.heap.size w W) => CntRef.of_any g v cs nm W B (hc.below h))
  have HF := hide hf
  have HN0 := hide hn0
  have HR0 := hide hr0
  have HS0 := hide hs0
  have HB0 := hide (Below.refl w.heap.size w)
  have hm0' : n0 ≤ 9223372036854775807 := by unfold maxLen at hm0; omega
  clear LL LE hl hc hf hn0 hm0 hr0 hs0 hg
  go_enter Tryz.func16, Tryz.ntmps16
  go_wp2
  go_loopw [7, 8, 9, 10, 11] (fun s7 _ _ _ _ wr => ∃ i : Nat, i ≤ n0 ∧ s7 = .int .i64 i ∧ Hid (Below w.heap.size w wr)) (fun s7 _ _ _ _ _ => n0 - (intOf s7).toNat)
  case atStart => exact ⟨0, by omega, rfl, HB0.out⟩
  case round =>
    obtain ⟨i, hi, rfl, HB⟩ := hrel
    by_cases hlt : i < n0
    · have hltz : (i : Int) < n0 := by omega
      obtain ⟨nm, hx⟩ : ∃ y, ns[i]? = some y := ⟨ns[i]'(by have := HN0.out; omega), List.getElem?_eq_getElem (by have := HN0.out; omega)⟩
      have hsz := HS0.out _ (List.mem_of_getElem? hx)
      obtain ⟨b0, o0, rfl, _⟩ := HR0.out.at hx
      have HC : Hid (∀ W, Below w.heap.size w W → W.cell? ⟨b0, o0 + i, none⟩ = some (.string nm)) := fun W hb => by
        obtain ⟨b', o', e, h⟩ := (HR0.out.below hb).at hx
        cases e
        have := h 0 _ rfl
        simpa using this
      have hc0 := HC.out _ HB.out
      have LA1 := hide (LA.out nm hsz)
      have OF1 := hide (OF.out nm)
      have NA := hide (fun W => CntRef.name_any nm W hsz)
      clear hx hsz HB0
      cases hn : nameB nm with
      | false =>
        rw [(leaE_no (f := j.f) hn).1, (leaE_no (f := j.f) hn).2, errV_some (show ¬ (3 : Int) = 0 by decide)] at LA1
        rw [hn] at NA
        clear hn OF1
        go_wp2_with (fail)
        refine (NA.out _).mono ?_
        rintro e wz ⟨rfl, hw⟩
        rw [hw]
        clear hw NA
        go_wp2_with (fail)
        refine (LA1.out _ HB.out).mono ?_
        rintro e w2 ⟨rfl, hb2⟩
        have HB2 := hide (below_on HB.out hb2)
        clear hb2 LA1 HB hc0
        go_wp2_with (fail)
        refine (As.same_err 3 3 _ (HG.out _ HB2.out)).mono ?_
        rintro e w3 ⟨rfl, hb3⟩
        have HB3 := hide (below_on HB2.out hb3)
        clear hb3 HB2
        go_wp2
        go_roundw
        case rel => exact ⟨i + 1, by omega, by go_num, HB3.out⟩
        case measure => simp [intOf]; omega
      | true =>
        rw [(leaE_ok (f := j.f) hn).1, (leaE_ok (f := j.f) hn).2, errV_zero, HF.out] at LA1
        rw [hn] at NA
        clear hn
        generalize CntRef.ofC cs nm = lv at *
        go_wp2_with (fail)
        refine (NA.out _).mono ?_
        rintro e wz ⟨rfl, hw⟩
        rw [hw]
        clear hw NA
        go_wp2_with (fail)
        refine (LA1.out _ HB.out).mono ?_
        rintro e w2 ⟨rfl, hb2⟩
        have HB2 := hide (below_on HB.out hb2)
        have hc2 := HC.out _ HB2.out
        clear hb2 LA1 HB hc0
        go_wp2_with (fail)
        refine (OF1.out _ HB2.out).mono ?_
        rintro e w3 ⟨rfl, hw⟩
        rw [hw]
        clear hw OF1
        go_wp2
        go_roundw
        case rel => exact ⟨i + 1, by omega, by go_num, HB2.out⟩
        case measure => simp [intOf]; omega
    · have hltz : ¬ (i : Int) < n0 := by omega
      go_wp2
      go_ret
      exact ⟨rfl, HB.out⟩
end Go.Proofs.YtgnpffkfbacejaaGreatDoor.Log
