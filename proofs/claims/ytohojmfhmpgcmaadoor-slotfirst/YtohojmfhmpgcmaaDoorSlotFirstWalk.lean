/-
  The walk of stairlaw4.SlotFirst: it returns true, and memory that was there stays as it was.
-/
import Derived.Test.YtohojmfhmpgcmaaDoorSlotOb
import Derived.Test.YtohojmfhmpgcmaaDoorImg3
import Derived.Test.YtohojmfhmpgcmaaDoorAs
import Derived.Deep.RegionHeld3
import Derived.Deep.DeepCutAuto
namespace Go.Proofs.YtohojmfhmpgcmaaDoor.SlotFirst
open Go.ChangeShapes Go.WideShapes Go.ChangeAt Go.RowKit
open Go.Proofs.YtohojmfhmpgcmaaDoor.M Go.Proofs.YtohojmfhmpgcmaaDoor.Slot Go.Proofs.YtohojmfhmpgcmaaDoor.Image
set_option linter.unusedVariables false

theorem kp_S {w0 W : World} {B P A : Nat} {a0 a1 a2 a3 a4 a6 p0 p1 p2 p3 p4 b0 b1 b2 b3 b4 b6 : Value} {T U : TypeId} {Q : Nat} {ks : List (Nat × Obj)}
    (hA : (A, Obj.cells #[a0, a1, a2, a3, a4, .bool true, a6, .bool true] T) ∈ ks) (hQ : (Q, Obj.cells #[b0, b1, b2, b3, b4, .bool false, b6, .bool false] T) ∈ ks) (hP : (P, Obj.cells #[p0, p1, p2, p3, p4] U) ∈ ks) (h : Kp w0 B ks W) :
    (W.cell? ⟨A, 0, none⟩ = some a0 ∧ W.cell? ⟨A, 1, none⟩ = some a1 ∧ W.cell? ⟨A, 2, none⟩ = some a2 ∧ W.cell? ⟨A, 3, none⟩ = some a3 ∧ W.cell? ⟨A, 4, none⟩ = some a4 ∧ W.cell? ⟨A, 5, none⟩ = some (.bool true) ∧ W.cell? ⟨A, 7, none⟩ = some (.bool true))
    ∧ (W.cell? ⟨Q, 5, none⟩ = some (.bool false) ∧ W.cell? ⟨Q, 7, none⟩ = some (.bool false))
    ∧ (W.cell? ⟨P, 0, none⟩ = some p0 ∧ W.cell? ⟨P, 1, none⟩ = some p1 ∧ W.cell? ⟨P, 2, none⟩ = some p2 ∧ W.cell? ⟨P, 3, none⟩ = some p3 ∧ W.cell? ⟨P, 4, none⟩ = some p4) ∧ Kp w0 B ks W := by
  obtain ⟨x0, x1, x2, x3, x4, x5, x6, x7⟩ := eight (h.2 _ hA)
  obtain ⟨_, _, _, _, _, y5, _, y7⟩ := eight (h.2 _ hQ)
  exact ⟨⟨x0, x1, x2, x3, x4, x5, x7⟩, ⟨y5, y7⟩, five (h.2 _ hP), h⟩

set_option maxRecDepth 20000 in
set_option maxHeartbeats 4000000 in
theorem walk {Slt : World → Nat → Value → (Nat → Prop) → St → Prop} (L : Laws Slt) (LP : PickLaw Slt) (s : Sg) (w : World) (hs : szS s) (hg : As.Handle w) :
    Calls Tryd.prog 3 #[sgA s] w fun e w' => e = .returned (.bool true) ∧ Below w.heap.size w w' := by
  have HH := hide (fun (W : World) (h : Below w.heap.size w W) => hg.below h)
  have HL := hide L
  have HLP := hide LP
  have hbA := below_new w (.cells #[.string s.nm, .int .i64 s.v, .string s.cd, .int .i64 s.p, .int .i64 s.a] 27)
  have HP := hide (blk_new w (.cells #[.string s.nm, .int .i64 s.v, .string s.cd, .int .i64 s.p, .int .i64 s.a] 27))
  have HB := hide hbA
  have hsz := hbA.size
  obtain ⟨p0, p1, p2, p3, p4⟩ := five HP.out
  clear hg L LP hbA
  by_cases hE : sgE s = 0
  · have NW := hide (HL.out.new s _ w.heap.size hs hE hsz)
    have A0 : Hid (∀ (p : Value) (S : Nat → Prop) (W : World), Slt W w.heap.size p S (newT s) → Calls Tryd.prog 7 #[p, .int .i64 0] W fun e w' => e = .returned (.tuple #[.agg #[.string s.nm, .int .i64 s.v, .string s.cd, .int .i64 s.p, .int .i64 s.a, .bool true, .int .i64 0, .bool true], .nilIface]) ∧ Below W.heap.size W w') := fun p S W h => HL.out.at' p S (newT s) 0 W w.heap.size h
    have A1 : Hid (∀ (p : Value) (S : Nat → Prop) (W : World), Slt W w.heap.size p S (newT s) → Calls Tryd.prog 7 #[p, .int .i64 1] W fun e w' => e = .returned (.tuple #[.agg #[.string { data := #[] }, .int .i64 0, .string { data := #[] }, .int .i64 0, .int .i64 0, .bool false, .int .i64 0, .bool false], .nilIface]) ∧ Below W.heap.size W w') := fun p S W h => HL.out.at' p S (newT s) 1 W w.heap.size h
    have GD : Hid (∀ (p : Value) (S : Nat → Prop) (W : World), Slt W w.heap.size p S (newT s) → w.heap.size ≤ W.heap.size → Calls Tryd.prog 8 #[p] W fun e w' => ∃ S', e = .returned (.iface 58 (.int .i64 7)) ∧ Slt w' w.heap.size p S' (newT s) ∧ Only S W w' ∧ (∀ b, S' b → S b ∨ W.heap.size ≤ b)) := fun p S W h hb => HL.out.good p S (newT s) W w.heap.size h hb
    have PK : Hid (∀ (p : Value) (S : Nat → Prop) (W : World), Slt W w.heap.size p S (newT s) → Calls Tryd.prog 10 #[p] W fun e w' => e = .returned (.int .i64 0) ∧ Below W.heap.size W w') := fun p S W h => HLP.out p S (newT s) W w.heap.size h
    have ST : Hid (∀ (p : Value) (S : Nat → Prop) (W : World), Slt W w.heap.size p S (newT s) → w.heap.size ≤ W.heap.size → Calls Tryd.prog 11 #[p] W fun e w' => ∃ S', e = .returned (.agg #[.string s.nm, .int .i64 s.v, .string s.cd, .int .i64 s.p, .int .i64 s.a]) ∧ Slt w' w.heap.size p S' (startT (newT s)) ∧ Only S W w' ∧ (∀ b, S' b → S b ∨ W.heap.size ≤ b)) := fun p S W h hb => HL.out.start p S (newT s) W w.heap.size h hb
    unfold sgA at NW ⊢
    have HE := hide hE
    clear hE
    go_enter Tryd.func3, Tryd.ntmps3
    go_wp2_with (fail)
    refine NW.out.mono ?_
    rintro e w1 ⟨p, S, rfl, hn1, hf1, hb1⟩
    have HO1 : Hid (Ob Slt w w.heap.size p S (newT s) [(w.heap.size, .cells #[.string s.nm, .int .i64 s.v, .string s.cd, .int .i64 s.p, .int .i64 s.a] 27)] w1) :=
      ⟨hn1, fun x hx => by
        rw [List.mem_singleton.1 hx]
        exact ⟨blk_below HP.out hb1, fun h => by have h1 := hf1 _ h; have h2 := blk_lt HP.out; omega⟩, below_on HB.out hb1, Nat.le_trans hsz hb1.size⟩
    clear hn1 hf1 hb1 NW p0 p1 p2 p3 p4 HP HB
    go_wp2_with (fail)
    refine (A0.out p S _ HO1.out.n).mono ?_
    rintro e w2 ⟨rfl, hb2⟩
    have HO2 := hide ((HO1.out.below HL.out hb2).alloc HL.out (.cells #[.string s.nm, .int .i64 s.v, .string s.cd, .int .i64 s.p, .int .i64 s.a, .bool true, .int .i64 0, .bool true] 35))
    clear hb2 HO1 A0
    go_wp2_with (fail)
    refine (A1.out p S _ HO2.out.n).mono ?_
    rintro e w3 ⟨rfl, hb3⟩
    have HO3 := hide ((HO2.out.below HL.out hb3).alloc HL.out (.cells #[.string { data := #[] }, .int .i64 0, .string { data := #[] }, .int .i64 0, .int .i64 0, .bool false, .int .i64 0, .bool false] 35))
    clear hb3 HO2 A1
    go_wp2_with (fail)
    refine (GD.out p S _ HO3.out.n HO3.out.hb).mono ?_
    rintro e w4 ⟨S4, rfl, hn4, ho4, hf4⟩
    have HO4 := hide (HO3.out.step HL.out hn4 ho4 hf4)
    clear hn4 ho4 hf4 HO3 GD
    generalize hks : [(w3.heap.size, Obj.cells #[.string { data := #[] }, .int .i64 0, .string { data := #[] }, .int .i64 0, .int .i64 0, .bool false, .int .i64 0, .bool false] 35), (w2.heap.size, .cells #[.string s.nm, .int .i64 s.v, .string s.cd, .int .i64 s.p, .int .i64 s.a, .bool true, .int .i64 0, .bool true] 35), (w.heap.size, .cells #[.string s.nm, .int .i64 s.v, .string s.cd, .int .i64 s.p, .int .i64 s.a] 27)] = ks at *
    have mA : (w2.heap.size, Obj.cells #[.string s.nm, .int .i64 s.v, .string s.cd, .int .i64 s.p, .int .i64 s.a, .bool true, .int .i64 0, .bool true] 35) ∈ ks := by rw [← hks]; simp
    have mQ : (w3.heap.size, Obj.cells #[.string { data := #[] }, .int .i64 0, .string { data := #[] }, .int .i64 0, .int .i64 0, .bool false, .int .i64 0, .bool false] 35) ∈ ks := by rw [← hks]; simp
    have mP : (w.heap.size, Obj.cells #[.string s.nm, .int .i64 s.v, .string s.cd, .int .i64 s.p, .int .i64 s.a] 27) ∈ ks := by rw [← hks]; simp
    have MA := hide mA
    have MQ := hide mQ
    have MP := hide mP
    clear hks mA mQ mP
    have hO4 := HO4.out
    have hK4 := hO4.kp
    obtain ⟨⟨a0, a1, a2, a3, a4, a5, a7⟩, ⟨b5, b7⟩, ⟨p0, p1, p2, p3, p4⟩, _⟩ := kp_S MA.out MQ.out MP.out hK4
    go_wp2_with (fail)
    go_region_held3 (fun W => (W.cell? ⟨w2.heap.size, 0, none⟩ = some (.string s.nm) ∧ W.cell? ⟨w2.heap.size, 1, none⟩ = some (.int .i64 s.v) ∧ W.cell? ⟨w2.heap.size, 2, none⟩ = some (.string s.cd) ∧ W.cell? ⟨w2.heap.size, 3, none⟩ = some (.int .i64 s.p) ∧ W.cell? ⟨w2.heap.size, 4, none⟩ = some (.int .i64 s.a) ∧ W.cell? ⟨w2.heap.size, 5, none⟩ = some (.bool true) ∧ W.cell? ⟨w2.heap.size, 7, none⟩ = some (.bool true))
        ∧ (W.cell? ⟨w3.heap.size, 5, none⟩ = some (.bool false) ∧ W.cell? ⟨w3.heap.size, 7, none⟩ = some (.bool false))
        ∧ (W.cell? ⟨w.heap.size, 0, none⟩ = some (.string s.nm) ∧ W.cell? ⟨w.heap.size, 1, none⟩ = some (.int .i64 s.v) ∧ W.cell? ⟨w.heap.size, 2, none⟩ = some (.string s.cd) ∧ W.cell? ⟨w.heap.size, 3, none⟩ = some (.int .i64 s.p) ∧ W.cell? ⟨w.heap.size, 4, none⟩ = some (.int .i64 s.a)) ∧ Kp w w.heap.size ks W)
      (exact kp_S MA.out MQ.out MP.out (by repeat (first | assumption | apply Kp.drew)))
      (first
        | (go_at_call 9; refine (As.same_err 7 7 _ (HH.out _ (Ob.lo (by repeat (first | assumption | apply Ob.drew HL.out))))).mono ?_; rintro e w5 ⟨rfl, hb5⟩; have hO5 : Ob Slt w w.heap.size p S4 (newT s) ks w5 := Ob.below HL.out (by repeat (first | assumption | apply Ob.drew HL.out)) hb5; have hK5 := hO5.kp; clear hb5; obtain ⟨⟨a50, a51, a52, a53, a54, a55, a57⟩, ⟨b55, b57⟩, ⟨p50, p51, p52, p53, p54⟩, _⟩ := kp_S MA.out MQ.out MP.out hK5)
        | (go_at_call 10; refine (PK.out p S4 _ (Ob.n (by repeat (first | assumption | apply Ob.drew HL.out)))).mono ?_; rintro e w6 ⟨rfl, hb6⟩; have hO6 : Ob Slt w w.heap.size p S4 (newT s) ks w6 := Ob.below HL.out (by repeat (first | assumption | apply Ob.drew HL.out)) hb6; have hK6 := hO6.kp; clear hb6; obtain ⟨⟨a60, a61, a62, a63, a64, a65, a67⟩, ⟨b65, b67⟩, ⟨p60, p61, p62, p63, p64⟩, _⟩ := kp_S MA.out MQ.out MP.out hK6)
        | (go_at_call 11; refine (ST.out p S4 _ (Ob.n (by repeat (first | assumption | apply Ob.drew HL.out))) (Ob.hb (by repeat (first | assumption | apply Ob.drew HL.out)))).mono ?_; rintro e w7 ⟨S7, rfl, hn7, ho7, hf7⟩; have hO7 : Ob Slt w w.heap.size p S7 (startT (newT s)) ks w7 := Ob.step HL.out (by repeat (first | assumption | apply Ob.drew HL.out)) hn7 ho7 hf7; have hK7 := hO7.kp; clear hn7 ho7 hf7; obtain ⟨⟨a70, a71, a72, a73, a74, a75, a77⟩, ⟨b75, b77⟩, ⟨p70, p71, p72, p73, p74⟩, _⟩ := kp_S MA.out MQ.out MP.out hK7))
    all_goals
      go_wp2
      go_ret
      exact ⟨rfl, (show Kp w w.heap.size ks _ by repeat (first | assumption | apply Kp.drew)).1⟩
  · have NW := hide (HL.out.newNo s (w.alloc (.cells #[.string s.nm, .int .i64 s.v, .string s.cd, .int .i64 s.p, .int .i64 s.a] 27)) hs hE)
    have CK := hide (fun (W : World) => Image.check_any s.nm s.cd s.v W hs.1 hs.2)
    unfold sgA at NW ⊢
    unfold imgC at CK
    rw [errV_ne hE] at NW
    have HX := hide (errV_ne (T := 58) (show ¬ imgE s.nm s.v s.cd = 0 from hE))
    rw [HX.out] at CK
    clear hE
    generalize sgE s = ie at *
    generalize imgE s.nm s.v s.cd = je at *
    go_enter Tryd.func3, Tryd.ntmps3
    go_wp2_with (fail)
    refine NW.out.mono ?_
    rintro e w1 ⟨rfl, hb1⟩
    have HB1 := hide (below_on HB.out hb1)
    have HP1 := hide (blk_below HP.out hb1)
    clear hb1 HB HP p0 p1 p2 p3 p4 NW
    obtain ⟨p0, p1, p2, p3, p4⟩ := five HP1.out
    go_wp2_with (fail)
    refine (CK.out _).mono ?_
    rintro e w2 ⟨rfl, hb2⟩
    have HB2 := hide (below_on HB1.out hb2)
    clear hb2
    go_wp2
    go_ret
    exact ⟨rfl, HB2.out⟩
end Go.Proofs.YtohojmfhmpgcmaaDoor.SlotFirst
