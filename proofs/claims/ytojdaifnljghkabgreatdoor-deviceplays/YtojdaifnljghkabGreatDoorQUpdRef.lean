/-
  Contracts of what package stairref2 says on updates (May, Do): each returns what the plain mathematics says; of the slots it becomes what it should, and all else stays as it was.
-/
import Derived.Test.YtojdaifnljghkabGreatDoorQUpdOb
import Derived.Test.YtojdaifnljghkabGreatDoorQSignRef
import Derived.Test.YtojdaifnljghkabGreatDoorQCertRef
import Derived.Deep.RegionHeld3
namespace Go.Proofs.YtojdaifnljghkabGreatDoor.UpdRef
open Go.ChangeShapes Go.WideShapes Go.ChangeAt Go.RowKit
open Go.Proofs.YtojdaifnljghkabGreatDoor.M Go.Proofs.YtojdaifnljghkabGreatDoor.CntRef Go.Proofs.YtojdaifnljghkabGreatDoor.SlotRef Go.Proofs.YtojdaifnljghkabGreatDoor.Image
set_option linter.unusedVariables false

/-- Two signed images in their blocks, and all that was there is as it was. -/
structure Two (w0 : World) (n1 : ByteArray) (v1 : Int) (c1 : ByteArray) (p1 s1 : Int) (n2 : ByteArray) (v2 : Int) (c2 : ByteArray) (p2 s2 : Int) (W : World) : Prop where
  lo : Below w0.heap.size w0 W
  x : W.heap[w0.heap.size]? = some (.cells #[.string n1, .int .i64 v1, .string c1, .int .i64 p1, .int .i64 s1] 27)
  y : W.heap[w0.heap.size + 1]? = some (.cells #[.string n2, .int .i64 v2, .string c2, .int .i64 p2, .int .i64 s2] 27)
theorem Two.below {w0 W W' : World} {n1 c1 n2 c2 : ByteArray} {v1 p1 s1 v2 p2 s2 : Int} (h : Two w0 n1 v1 c1 p1 s1 n2 v2 c2 p2 s2 W) (hb : Below W.heap.size W W') : Two w0 n1 v1 c1 p1 s1 n2 v2 c2 p2 s2 W' := ⟨below_on h.lo hb, blk_below h.x hb, blk_below h.y hb⟩

set_option maxRecDepth 20000 in
set_option maxHeartbeats 4000000 in
theorem may_any (root : Int) (a : Option Addr) (l : List (Int × Int × Int)) (n cap : Nat) (g : Nat) (v : Value) (cs : List (ByteArray × Int)) (now next : Sg) (w : World) (B : Nat) (hn : n = l.length) (hm : n ≤ maxLen) (hr : RRow 3 certV w a l) (hc : CIs w B g v cs) (h1 : szS now) (h2 : szS next) :
    Calls Tryz.prog 66 #[.int .i64 root, .slice a n cap, .pointer (some ⟨g, 0, none⟩), sgA now, sgA next] w fun e w' => e = .returned (.int .i64 (updE root l (ofC cs) now next)) ∧ Below w.heap.size w w' := by
  obtain ⟨n1, v1, c1, p1, s1⟩ := now
  obtain ⟨n2, v2, c2, p2, s2⟩ := next
  have HT : Hid (Two w n1 v1 c1 p1 s1 n2 v2 c2 p2 s2 ((w.alloc (.cells #[.string n1, .int .i64 v1, .string c1, .int .i64 p1, .int .i64 s1] 27)).alloc (.cells #[.string n2, .int .i64 v2, .string c2, .int .i64 p2, .int .i64 s2] 27))) := by
    have q := blk_new (w.alloc (.cells #[.string n1, .int .i64 v1, .string c1, .int .i64 p1, .int .i64 s1] 27)) (.cells #[.string n2, .int .i64 v2, .string c2, .int .i64 p2, .int .i64 s2] 27)
    exact ⟨below_on (below_new _ _) (below_new _ _), blk_below (blk_new _ _) (below_new _ _), by simpa using q⟩
  have LT := hide (fun (W : World) (h : Below w.heap.size w W) => Ref.last_any root a l n cap W hn hm (hr.below h))
  have SL := hide (fun (q : Int) (W : World) => Ref.sealed_any q v2 p2 s2 n2 c2 W h2.1 h2.2)
  have IM := hide (fun (W : World) => Ref.image_any n1 c1 v1 W h1.1 h1.2)
  have CM := hide (fun (W : World) (h : Below w.heap.size w W) => CntRef.may_any g v cs n2 v2 W B (hc.below h) h2.1)
  unfold sgnC at SL
  unfold imgC at IM
  unfold sgA
  simp only []
  clear hn hm hr hc h1 h2
  go_enter Tryz.func66, Tryz.ntmps66
  go_wp2_with (fail)
  refine (LT.out _ HT.out.lo).mono ?_
  rintro e w1 ⟨rfl, hb1⟩
  have HT1 := hide (HT.out.below hb1)
  clear hb1 HT LT
  obtain ⟨y0, y1, y2, y3, y4⟩ := cells5 HT1.out.y
  by_cases hL : lastC root l = 0
  · have HL := hide hL
    rw [hL]
    clear hL
    generalize hq : lastV root l = q at *
    have HQ := hide hq
    clear hq
    go_wp2_with (fail)
    refine (SL.out q _).mono ?_
    rintro e w2 ⟨rfl, hb2⟩
    have HT2 := hide (HT1.out.below hb2)
    clear hb2 HT1 SL y0 y1 y2 y3 y4
    obtain ⟨x0, x1, x2, x3, x4⟩ := cells5 HT2.out.x
    by_cases hS : sldE q n2 v2 c2 p2 s2 = 0
    · have HS := hide (show sldS (lastV root l) ⟨n2, v2, c2, p2, s2⟩ = 0 by rw [HQ.out]; exact hS)
      rw [hS]
      clear hS
      go_wp2_with (fail)
      refine (IM.out _).mono ?_
      rintro e w3 ⟨rfl, hb3⟩
      have HT3 := hide (HT2.out.below hb3)
      clear hb3 HT2 IM x0 x1 x2 x3 x4
      obtain ⟨x0, x1, x2, x3, x4⟩ := cells5 HT3.out.x
      obtain ⟨y0, y1, y2, y3, y4⟩ := cells5 HT3.out.y
      by_cases hI : imgE n1 v1 c1 = 0
      · by_cases hN : n2 = n1
        · have HZ := hide (show newS ⟨n2, v2, c2, p2, s2⟩ ⟨n1, v1, c1, p1, s1⟩ = 0 from new_ok (sld_img HS.out) hI hN)
          subst hN
          rw [hI]
          clear hI
          by_cases hV : v1 < v2
          · have E := hide (show updE root l (ofC cs) ⟨n2, v1, c1, p1, s1⟩ ⟨n2, v2, c2, p2, s2⟩ = mayE (ofC cs) n2 v2 from upd_may HL.out HS.out HZ.out hV)
            go_wp2_with (fail)
            refine (CM.out _ HT3.out.lo).mono ?_
            rintro e w4 ⟨rfl, hw4⟩
            rw [hw4]
            clear hw4
            go_wp2
            go_ret
            exact ⟨by rw [E.out]; rfl, HT3.out.lo⟩
          · have E := hide (show updE root l (ofC cs) ⟨n2, v1, c1, p1, s1⟩ ⟨n2, v2, c2, p2, s2⟩ = 9 from upd_old HL.out HS.out HZ.out hV)
            have hVz : v2 ≤ v1 := by omega
            clear hV
            go_wp2
            go_ret
            exact ⟨by rw [E.out]; rfl, HT3.out.lo⟩
        · have E := hide (show updE root l (ofC cs) ⟨n1, v1, c1, p1, s1⟩ ⟨n2, v2, c2, p2, s2⟩ = 3 by
            have h3 : newS ⟨n2, v2, c2, p2, s2⟩ ⟨n1, v1, c1, p1, s1⟩ = 3 := new_name (sld_img HS.out) hI hN
            rw [upd_new HL.out HS.out (by rw [h3]; decide), h3])
          have hne := CntRef.str_ne hN
          rw [hI]
          clear hI
          go_wp2
          go_ret
          exact ⟨by rw [E.out]; rfl, HT3.out.lo⟩
      · have E := hide (show updE root l (ofC cs) ⟨n1, v1, c1, p1, s1⟩ ⟨n2, v2, c2, p2, s2⟩ = imgE n1 v1 c1 by
          have h3 : newS ⟨n2, v2, c2, p2, s2⟩ ⟨n1, v1, c1, p1, s1⟩ = imgE n1 v1 c1 := new_img (sld_img HS.out) hI
          rw [upd_new HL.out HS.out (by rw [h3]; exact hI), h3])
        generalize imgE n1 v1 c1 = ie at *
        go_wp2
        go_ret
        exact ⟨by rw [E.out]; rfl, HT3.out.lo⟩
    · have E := hide (show updE root l (ofC cs) ⟨n1, v1, c1, p1, s1⟩ ⟨n2, v2, c2, p2, s2⟩ = sldE q n2 v2 c2 p2 s2 by
        have h3 : sldS (lastV root l) ⟨n2, v2, c2, p2, s2⟩ = sldE q n2 v2 c2 p2 s2 := by rw [HQ.out]; rfl
        rw [upd_sld HL.out (by rw [h3]; exact hS), h3])
      generalize sldE q n2 v2 c2 p2 s2 = se at *
      go_wp2
      go_ret
      exact ⟨by rw [E.out]; rfl, HT2.out.lo⟩
  · have E := hide (show updE root l (ofC cs) ⟨n1, v1, c1, p1, s1⟩ ⟨n2, v2, c2, p2, s2⟩ = lastC root l from upd_last hL)
    generalize lastC root l = le at *
    generalize lastV root l = q at *
    go_wp2
    go_ret
    exact ⟨by rw [E.out]; rfl, HT1.out.lo⟩
/-- The reference's slots, and the next image in its block; all that was there is as it was. -/
def HeldD (w0 : World) (B h : Nat) (t : St) (nm : ByteArray) (v : Int) (cd : ByteArray) (p a : Int) (W : World) : Prop :=
  Below w0.heap.size w0 W ∧ SIs W B h t ∧ W.heap[w0.heap.size]? = some (.cells #[.string nm, .int .i64 v, .string cd, .int .i64 p, .int .i64 a] 27)
section
variable {w0 W W' : World} {B h : Nat} {t : St} {nm cd : ByteArray} {v p a : Int}
theorem heldD_lo (hh : HeldD w0 B h t nm v cd p a W) : (W.cell? ⟨w0.heap.size, 0, none⟩ = some (.string nm) ∧ W.cell? ⟨w0.heap.size, 1, none⟩ = some (.int .i64 v) ∧ W.cell? ⟨w0.heap.size, 2, none⟩ = some (.string cd) ∧ W.cell? ⟨w0.heap.size, 3, none⟩ = some (.int .i64 p) ∧ W.cell? ⟨w0.heap.size, 4, none⟩ = some (.int .i64 a)) ∧ (W.cell? ⟨h, 0, none⟩ = some (.string t.x.s.nm) ∧ W.cell? ⟨h, 1, none⟩ = some (.int .i64 t.x.s.v) ∧ W.cell? ⟨h, 2, none⟩ = some (.string t.x.s.cd) ∧ W.cell? ⟨h, 3, none⟩ = some (.int .i64 t.x.s.p) ∧ W.cell? ⟨h, 4, none⟩ = some (.int .i64 t.x.s.a)) ∧ HeldD w0 B h t nm v cd p a W := by
  obtain ⟨⟨x0, x1, x2, x3, x4, _⟩, _, _⟩ := cells8 hh.2.1.1
  exact ⟨cells5 hh.2.2, ⟨x0, x1, x2, x3, x4⟩, hh⟩
theorem heldD_hi (hh : HeldD w0 B h t nm v cd p a W) : (W.cell? ⟨w0.heap.size, 0, none⟩ = some (.string nm) ∧ W.cell? ⟨w0.heap.size, 1, none⟩ = some (.int .i64 v) ∧ W.cell? ⟨w0.heap.size, 2, none⟩ = some (.string cd) ∧ W.cell? ⟨w0.heap.size, 3, none⟩ = some (.int .i64 p) ∧ W.cell? ⟨w0.heap.size, 4, none⟩ = some (.int .i64 a)) ∧ (W.cell? ⟨h, 8, none⟩ = some (.string t.y.s.nm) ∧ W.cell? ⟨h, 9, none⟩ = some (.int .i64 t.y.s.v) ∧ W.cell? ⟨h, 10, none⟩ = some (.string t.y.s.cd) ∧ W.cell? ⟨h, 11, none⟩ = some (.int .i64 t.y.s.p) ∧ W.cell? ⟨h, 12, none⟩ = some (.int .i64 t.y.s.a)) ∧ HeldD w0 B h t nm v cd p a W := by
  obtain ⟨_, ⟨x0, x1, x2, x3, x4, _⟩, _⟩ := cells8 hh.2.1.1
  exact ⟨cells5 hh.2.2, ⟨x0, x1, x2, x3, x4⟩, hh⟩
theorem heldD_drew (hh : HeldD w0 B h t nm v cd p a W) : HeldD w0 B h t nm v cd p a W.drew := ⟨Below.drew hh.1, hh.2.1.below (Below.drew (Below.refl _ _)), hh.2.2⟩
theorem heldD_below (hh : HeldD w0 B h t nm v cd p a W) (hb : Below W.heap.size W W') : HeldD w0 B h t nm v cd p a W' := ⟨below_on hh.1 hb, hh.2.1.below hb, blk_below hh.2.2 hb⟩
end
set_option maxRecDepth 20000 in
set_option maxHeartbeats 4000000 in
theorem do_lo (root : Int) (a : Option Addr) (l : List (Int × Int × Int)) (n cap : Nat) (g : Nat) (v : Value) (cs : List (ByteArray × Int)) (h : Nat) (t : St) (next : Sg) (w : World) (B : Nat) (hn : n = l.length) (hm : n ≤ maxLen) (hr : RRow 3 certV w a l) (hc : CIs w B g v cs) (hs : SIs w B h t) (ht : szT t) (h2 : szS next) (hq : safeT t = false) :
    Calls Tryz.prog 21 #[.int .i64 root, .slice a n cap, .pointer (some ⟨g, 0, none⟩), .pointer (some ⟨h, 0, none⟩), sgA next] w fun e w' => e = .returned (.int .i64 (doE root l (ofC cs) t next)) ∧ SIs w' B h (doT root l (ofC cs) t next) ∧ Only (fun k => k = h) w w' := by
  have hsafe : safeS t = t.x.s := by unfold safeS; rw [hq]; rfl
  obtain ⟨n2, v2, c2, p2, s2⟩ := next
  have h0 : HeldD w B h t n2 v2 c2 p2 s2 (w.alloc (.cells #[.string n2, .int .i64 v2, .string c2, .int .i64 p2, .int .i64 s2] 27)) := ⟨below_new _ _, hs.below (below_new _ _), blk_new _ _⟩
  have SF := hide (fun (W : World) (hh : SIs W B h t) => safe_any h t W B hh)
  rw [hq] at SF
  have MY := hide (fun (W : World) (hb : Below w.heap.size w W) => may_any root a l n cap g v cs t.x.s ⟨n2, v2, c2, p2, s2⟩ W B hn hm (hr.below hb) (hc.below hb) ht.1 h2)
  have PT := hide (fun (W : World) (hh : SIs W B h t) => put_any h t ⟨n2, v2, c2, p2, s2⟩ W B hh h2)
  have D0 := hide (fun (e : updE root l (ofC cs) t.x.s ⟨n2, v2, c2, p2, s2⟩ = 0) => do_ok (f := ofC cs) (t := t) (next := ⟨n2, v2, c2, p2, s2⟩) (by rw [hsafe]; exact e))
  have D1 := hide (fun (e : ¬ updE root l (ofC cs) t.x.s ⟨n2, v2, c2, p2, s2⟩ = 0) => do_no (f := ofC cs) (t := t) (next := ⟨n2, v2, c2, p2, s2⟩) (by rw [hsafe]; exact e))
  rw [hsafe] at D1
  unfold sgA at MY PT ⊢
  simp only [] at MY PT ⊢
  simp only [idx] at SF
  clear hn hm hr hc hs ht h2 hq hsafe
  generalize updE root l (ofC cs) t.x.s ⟨n2, v2, c2, p2, s2⟩ = ue at *
  obtain ⟨⟨q0, q1, q2, q3, q4⟩, ⟨r0, r1, r2, r3, r4⟩, _⟩ := heldD_lo h0
  go_enter Tryz.func21, Tryz.ntmps21
  go_wp2_with (fail)
  go_region_held3 (fun W => (W.cell? ⟨w.heap.size, 0, none⟩ = some (.string n2) ∧ W.cell? ⟨w.heap.size, 1, none⟩ = some (.int .i64 v2) ∧ W.cell? ⟨w.heap.size, 2, none⟩ = some (.string c2) ∧ W.cell? ⟨w.heap.size, 3, none⟩ = some (.int .i64 p2) ∧ W.cell? ⟨w.heap.size, 4, none⟩ = some (.int .i64 s2)) ∧ (W.cell? ⟨h, 0, none⟩ = some (.string t.x.s.nm) ∧ W.cell? ⟨h, 1, none⟩ = some (.int .i64 t.x.s.v) ∧ W.cell? ⟨h, 2, none⟩ = some (.string t.x.s.cd) ∧ W.cell? ⟨h, 3, none⟩ = some (.int .i64 t.x.s.p) ∧ W.cell? ⟨h, 4, none⟩ = some (.int .i64 t.x.s.a)) ∧ HeldD w B h t n2 v2 c2 p2 s2 W)
    (exact heldD_lo (by repeat (first | assumption | apply heldD_drew)))
    (first
      | (go_at_call 34; refine (SF.out _ (show HeldD w B h t n2 v2 c2 p2 s2 _ by repeat (first | assumption | apply heldD_drew)).2.1).mono ?_; rintro e w5 ⟨rfl, hb5⟩; have h5 : HeldD w B h t n2 v2 c2 p2 s2 w5 := heldD_below (by repeat (first | assumption | apply heldD_drew)) hb5; clear hb5; obtain ⟨⟨m0, m1, m2, m3, m4⟩, ⟨m5, m6, m7, m8, m9⟩, _⟩ := heldD_lo h5)
      | (go_at_call 66; refine (MY.out _ (show HeldD w B h t n2 v2 c2 p2 s2 _ by repeat (first | assumption | apply heldD_drew)).1).mono ?_; rintro e w6 ⟨rfl, hb6⟩; have h6 : HeldD w B h t n2 v2 c2 p2 s2 w6 := heldD_below (by repeat (first | assumption | apply heldD_drew)) hb6; clear hb6; obtain ⟨⟨k0, k1, k2, k3, k4⟩, ⟨k5, k6, k7, k8, k9⟩, _⟩ := heldD_lo h6))
  by_cases hE : ue = 0
  · obtain ⟨f1, f2⟩ := D0.out hE
    have F1 := hide f1
    have F2 := hide f2
    subst hE
    clear f1 f2 D0 D1
    go_wp2_with (fail)
    refine (PT.out _ (show HeldD w B h t n2 v2 c2 p2 s2 _ by repeat (first | assumption | apply heldD_drew)).2.1).mono ?_
    rintro e w7 ⟨rfl, hn7, ho7⟩
    have HN7 := hide hn7
    have HO7 := hide ((Only.of_below (S := fun k => k = h) (show HeldD w B h t n2 v2 c2 p2 s2 w6 from h6).1).trans ho7 (fun _ _ e => e))
    go_wp2
    go_ret
    exact ⟨by rw [F1.out]; rfl, by rw [F2.out]; exact HN7.out, HO7.out⟩
  · obtain ⟨f1, f2⟩ := D1.out hE
    have F1 := hide f1
    have F2 := hide f2
    clear f1 f2 D0 D1
    go_wp2
    go_ret
    exact ⟨by rw [F1.out]; rfl, by rw [F2.out]; exact h6.2.1, Only.of_below h6.1⟩
set_option maxRecDepth 20000 in
set_option maxHeartbeats 4000000 in
theorem do_hi (root : Int) (a : Option Addr) (l : List (Int × Int × Int)) (n cap : Nat) (g : Nat) (v : Value) (cs : List (ByteArray × Int)) (h : Nat) (t : St) (next : Sg) (w : World) (B : Nat) (hn : n = l.length) (hm : n ≤ maxLen) (hr : RRow 3 certV w a l) (hc : CIs w B g v cs) (hs : SIs w B h t) (ht : szT t) (h2 : szS next) (hq : safeT t = true) :
    Calls Tryz.prog 21 #[.int .i64 root, .slice a n cap, .pointer (some ⟨g, 0, none⟩), .pointer (some ⟨h, 0, none⟩), sgA next] w fun e w' => e = .returned (.int .i64 (doE root l (ofC cs) t next)) ∧ SIs w' B h (doT root l (ofC cs) t next) ∧ Only (fun k => k = h) w w' := by
  have hsafe : safeS t = t.y.s := by unfold safeS; rw [hq]; rfl
  obtain ⟨n2, v2, c2, p2, s2⟩ := next
  have h0 : HeldD w B h t n2 v2 c2 p2 s2 (w.alloc (.cells #[.string n2, .int .i64 v2, .string c2, .int .i64 p2, .int .i64 s2] 27)) := ⟨below_new _ _, hs.below (below_new _ _), blk_new _ _⟩
  have SF := hide (fun (W : World) (hh : SIs W B h t) => safe_any h t W B hh)
  rw [hq] at SF
  have MY := hide (fun (W : World) (hb : Below w.heap.size w W) => may_any root a l n cap g v cs t.y.s ⟨n2, v2, c2, p2, s2⟩ W B hn hm (hr.below hb) (hc.below hb) ht.2 h2)
  have PT := hide (fun (W : World) (hh : SIs W B h t) => put_any h t ⟨n2, v2, c2, p2, s2⟩ W B hh h2)
  have D0 := hide (fun (e : updE root l (ofC cs) t.y.s ⟨n2, v2, c2, p2, s2⟩ = 0) => do_ok (f := ofC cs) (t := t) (next := ⟨n2, v2, c2, p2, s2⟩) (by rw [hsafe]; exact e))
  have D1 := hide (fun (e : ¬ updE root l (ofC cs) t.y.s ⟨n2, v2, c2, p2, s2⟩ = 0) => do_no (f := ofC cs) (t := t) (next := ⟨n2, v2, c2, p2, s2⟩) (by rw [hsafe]; exact e))
  rw [hsafe] at D1
  unfold sgA at MY PT ⊢
  simp only [] at MY PT ⊢
  simp only [idx] at SF
  clear hn hm hr hc hs ht h2 hq hsafe
  generalize updE root l (ofC cs) t.y.s ⟨n2, v2, c2, p2, s2⟩ = ue at *
  obtain ⟨⟨q0, q1, q2, q3, q4⟩, ⟨r0, r1, r2, r3, r4⟩, _⟩ := heldD_hi h0
  go_enter Tryz.func21, Tryz.ntmps21
  go_wp2_with (fail)
  go_region_held3 (fun W => (W.cell? ⟨w.heap.size, 0, none⟩ = some (.string n2) ∧ W.cell? ⟨w.heap.size, 1, none⟩ = some (.int .i64 v2) ∧ W.cell? ⟨w.heap.size, 2, none⟩ = some (.string c2) ∧ W.cell? ⟨w.heap.size, 3, none⟩ = some (.int .i64 p2) ∧ W.cell? ⟨w.heap.size, 4, none⟩ = some (.int .i64 s2)) ∧ (W.cell? ⟨h, 8, none⟩ = some (.string t.y.s.nm) ∧ W.cell? ⟨h, 9, none⟩ = some (.int .i64 t.y.s.v) ∧ W.cell? ⟨h, 10, none⟩ = some (.string t.y.s.cd) ∧ W.cell? ⟨h, 11, none⟩ = some (.int .i64 t.y.s.p) ∧ W.cell? ⟨h, 12, none⟩ = some (.int .i64 t.y.s.a)) ∧ HeldD w B h t n2 v2 c2 p2 s2 W)
    (exact heldD_hi (by repeat (first | assumption | apply heldD_drew)))
    (first
      | (go_at_call 34; refine (SF.out _ (show HeldD w B h t n2 v2 c2 p2 s2 _ by repeat (first | assumption | apply heldD_drew)).2.1).mono ?_; rintro e w5 ⟨rfl, hb5⟩; have h5 : HeldD w B h t n2 v2 c2 p2 s2 w5 := heldD_below (by repeat (first | assumption | apply heldD_drew)) hb5; clear hb5; obtain ⟨⟨m0, m1, m2, m3, m4⟩, ⟨m5, m6, m7, m8, m9⟩, _⟩ := heldD_hi h5)
      | (go_at_call 66; refine (MY.out _ (show HeldD w B h t n2 v2 c2 p2 s2 _ by repeat (first | assumption | apply heldD_drew)).1).mono ?_; rintro e w6 ⟨rfl, hb6⟩; have h6 : HeldD w B h t n2 v2 c2 p2 s2 w6 := heldD_below (by repeat (first | assumption | apply heldD_drew)) hb6; clear hb6; obtain ⟨⟨k0, k1, k2, k3, k4⟩, ⟨k5, k6, k7, k8, k9⟩, _⟩ := heldD_hi h6))
  by_cases hE : ue = 0
  · obtain ⟨f1, f2⟩ := D0.out hE
    have F1 := hide f1
    have F2 := hide f2
    subst hE
    clear f1 f2 D0 D1
    go_wp2_with (fail)
    refine (PT.out _ (show HeldD w B h t n2 v2 c2 p2 s2 _ by repeat (first | assumption | apply heldD_drew)).2.1).mono ?_
    rintro e w7 ⟨rfl, hn7, ho7⟩
    have HN7 := hide hn7
    have HO7 := hide ((Only.of_below (S := fun k => k = h) (show HeldD w B h t n2 v2 c2 p2 s2 w6 from h6).1).trans ho7 (fun _ _ e => e))
    go_wp2
    go_ret
    exact ⟨by rw [F1.out]; rfl, by rw [F2.out]; exact HN7.out, HO7.out⟩
  · obtain ⟨f1, f2⟩ := D1.out hE
    have F1 := hide f1
    have F2 := hide f2
    clear f1 f2 D0 D1
    go_wp2
    go_ret
    exact ⟨by rw [F1.out]; rfl, by rw [F2.out]; exact h6.2.1, Only.of_below h6.1⟩
theorem do_any (root : Int) (a : Option Addr) (l : List (Int × Int × Int)) (n cap : Nat) (g : Nat) (v : Value) (cs : List (ByteArray × Int)) (h : Nat) (t : St) (next : Sg) (w : World) (B : Nat) (hn : n = l.length) (hm : n ≤ maxLen) (hr : RRow 3 certV w a l) (hc : CIs w B g v cs) (hs : SIs w B h t) (ht : szT t) (h2 : szS next) :
    Calls Tryz.prog 21 #[.int .i64 root, .slice a n cap, .pointer (some ⟨g, 0, none⟩), .pointer (some ⟨h, 0, none⟩), sgA next] w fun e w' => e = .returned (.int .i64 (doE root l (ofC cs) t next)) ∧ SIs w' B h (doT root l (ofC cs) t next) ∧ Only (fun k => k = h) w w' := by
  cases hq : safeT t with
  | false => exact do_lo root a l n cap g v cs h t next w B hn hm hr hc hs ht h2 hq
  | true => exact do_hi root a l n cap g v cs h t next w B hn hm hr hc hs ht h2 hq
end Go.Proofs.YtojdaifnljghkabGreatDoor.UpdRef
