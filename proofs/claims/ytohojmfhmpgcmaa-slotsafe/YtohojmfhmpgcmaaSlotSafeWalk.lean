/-
  The walk of stairlaw2.SlotSafe: it returns true, and memory that was there stays as it was.
-/
import Derived.Test.YtohojmfhmpgcmaaSlotOb
import Derived.Test.YtohojmfhmpgcmaaSlotSafeMath
import Derived.Test.YtohojmfhmpgcmaaImg3
import Derived.Test.YtohojmfhmpgcmaaRec
import Derived.Deep.DeepCutAuto
import Derived.Deep.CutBlock
namespace Go.Proofs.Ytohojmfhmpgcmaa.SlotSafe
open Go.ChangeShapes Go.WideShapes Go.ChangeAt Go.RowKit
open Go.Proofs.Ytohojmfhmpgcmaa.M Go.Proofs.Ytohojmfhmpgcmaa.Slot Go.Proofs.Ytohojmfhmpgcmaa.Image
set_option linter.unusedVariables false

def sgK (v : Int) : Sg := ⟨{ data := #[97] }, v, { data := #[] }, 0, 0⟩
theorem sgK_one : sgE (sgK 1) = 0 := by decide
theorem sgK_two : putE (newT (sgK 1)) (sgK 2) = 0 := by decide
theorem sgK_pick : pickT (putT (newT (sgK 1)) (sgK 2)) = true := by decide
theorem szK (v : Int) : szS (sgK v) := ⟨by show 1 ≤ _; omega, by show 0 ≤ _; omega⟩

set_option maxRecDepth 20000 in
set_option maxHeartbeats 4000000 in
theorem walk {Slt : World → Nat → Value → (Nat → Prop) → St → Prop} (L : Laws Slt) (LU : PutLaw Slt) (LP : PickLaw Slt) (a1 a2 : Option Addr) (n1 n2 c1 c2 : Nat) (s : Sg) (ds : List Int) (ls : List Sg) (w : World) (hs : szS s)
    (hn1 : n1 = ds.length) (hm1 : n1 ≤ maxLen) (hr1 : Row w a1 ds) (hn2 : n2 = ls.length) (hm2 : n2 ≤ maxLen) (hr2 : RRow 5 sgV w a2 ls) (hs2 : ∀ s ∈ ls, szS s) :
    Calls Try.prog 3 #[sgA s, .slice a1 n1 c1, .slice a2 n2 c2] w fun e w' => e = .returned (.bool true) ∧ Below w.heap.size w w' := by
  have HL := hide L
  have HLU := hide LU
  have HLP := hide LP
  have HR1 := hide hr1
  have HR2 := hide hr2
  have HS2 := hide hs2
  have HSZ := hide hs
  have HN1 := hide hn1
  have HN2 := hide hn2
  have hm1' : n1 ≤ 9223372036854775807 := by unfold maxLen at hm1; omega
  have hm2' : n2 ≤ 9223372036854775807 := by unfold maxLen at hm2; omega
  have hbA := below_new w (.cells #[.string s.nm, .int .i64 s.v, .string s.cd, .int .i64 s.p, .int .i64 s.a] 27)
  have HP := hide (blk_new w (.cells #[.string s.nm, .int .i64 s.v, .string s.cd, .int .i64 s.p, .int .i64 s.a] 27))
  have HB := hide hbA
  have hsz := hbA.size
  have NK : Hid (∀ (W : World), w.heap.size ≤ W.heap.size → Calls Try.prog 4 #[.agg #[.string { data := #[97] }, .int .i64 1, .string { data := #[] }, .int .i64 0, .int .i64 0]] W fun e w' => ∃ p S, e = .returned (.tuple #[p, .nilIface]) ∧ Slt w' w.heap.size p S (newT (sgK 1)) ∧ (∀ b, S b → W.heap.size ≤ b) ∧ Below W.heap.size W w') := fun W h => L.new (sgK 1) W w.heap.size (szK 1) sgK_one h
  have PK : Hid (∀ (p : Value) (S : Nat → Prop) (W : World), Slt W w.heap.size p S (newT (sgK 1)) → Calls Try.prog 5 #[p] W fun e w' => e = .returned (.int .i64 0) ∧ Below W.heap.size W w') := fun p S W h => LP p S (newT (sgK 1)) W w.heap.size h
  have PT : Hid (∀ (p : Value) (S : Nat → Prop) (W : World), Slt W w.heap.size p S (newT (sgK 1)) → w.heap.size ≤ W.heap.size → Calls Try.prog 6 #[p, .agg #[.string { data := #[97] }, .int .i64 2, .string { data := #[] }, .int .i64 0, .int .i64 0]] W fun e w' => ∃ S', e = .returned .nilIface ∧ Slt w' w.heap.size p S' (putT (newT (sgK 1)) (sgK 2)) ∧ Only S W w' ∧ (∀ b, S' b → S b ∨ W.heap.size ≤ b)) := fun p S W h hb => by
    have := LU p S (newT (sgK 1)) (sgK 2) W w.heap.size h (szK 2) hb
    rw [sgK_two] at this
    exact this
  have PQ : Hid (∀ (p : Value) (S : Nat → Prop) (W : World), Slt W w.heap.size p S (putT (newT (sgK 1)) (sgK 2)) → Calls Try.prog 5 #[p] W fun e w' => e = .returned (.int .i64 1) ∧ Below W.heap.size W w') := fun p S W h => by
    have := LP p S (putT (newT (sgK 1)) (sgK 2)) W w.heap.size h
    rw [sgK_pick] at this
    exact this
  unfold sgA
  clear L LU LP hr1 hr2 hs2 hn1 hn2 hm1 hm2 hbA hs
  go_enter Try.func3, Try.ntmps3
  go_wp2_with (fail)
  refine (NK.out _ hsz).mono ?_
  rintro e w1 ⟨q, S1, rfl, hq1, hf1, hb1⟩
  have HO1 : Hid (Ob Slt w w.heap.size q S1 (newT (sgK 1)) [(w.heap.size, .cells #[.string s.nm, .int .i64 s.v, .string s.cd, .int .i64 s.p, .int .i64 s.a] 27)] w1) :=
    ⟨hq1, fun x hx => by
      rw [List.mem_singleton.1 hx]
      exact ⟨blk_below HP.out hb1, fun h => by have h1 := hf1 _ h; have h2 := blk_lt HP.out; omega⟩, below_on HB.out hb1, Nat.le_trans hsz hb1.size⟩
  clear hq1 hf1 hb1 NK HP HB hsz
  go_wp2_with (fail)
  refine (PK.out q S1 _ HO1.out.n).mono ?_
  rintro e w2 ⟨rfl, hb2⟩
  have HO2 := hide (HO1.out.below HL.out hb2)
  clear hb2 HO1 PK
  go_wp2_with (fail)
  refine (PT.out q S1 _ HO2.out.n HO2.out.hb).mono ?_
  rintro e w3 ⟨S3, rfl, hn3, ho3, hf3⟩
  have HO3 := hide (HO2.out.step HL.out hn3 ho3 hf3)
  clear hn3 ho3 hf3 HO2 PT
  go_wp2_with (fail)
  refine (PQ.out q S3 _ HO3.out.n).mono ?_
  rintro e w4 ⟨rfl, hb4⟩
  have HO4 := hide (HO3.out.below HL.out hb4)
  clear hb4 HO3 PQ
  have HP4 := hide (HO4.out.ks _ (List.mem_singleton.2 rfl)).1
  have HB4 := hide HO4.out.lo
  have hsz := HO4.out.hb
  obtain ⟨p0, p1, p2, p3, p4⟩ := five HP4.out
  clear HO4
  by_cases hE : sgE s = 0
  · have NW := hide (HL.out.new s w4 w.heap.size HSZ.out hE hsz)
    unfold sgA at NW
    clear hE
    go_wp2_with (fail)
    refine NW.out.mono ?_
    rintro e w5 ⟨p, S5, rfl, hn5, _, hb5⟩
    have HO5 : Hid (Ob Slt w w.heap.size p S5 (newT s) [] w5) := ⟨hn5, (fun x hx => by cases hx), below_on HB4.out hb5, Nat.le_trans hsz hb5.size⟩
    clear hn5 hb5 NW HP4 HB4 hsz p0 p1 p2 p3 p4 HSZ
    go_upto_block 0 with (fail)
    go_cut [11, 12, 13, 14, 15, 16] from 58 to 152 (fun _ _ _ _ _ _ w' => ∃ (S : Nat → Prop) (t : St), Hid (Ob Slt w w.heap.size p S t [] w'))
    case first =>
      go_wp2_with (fail)
      go_loopw [11, 12, 13, 14, 15, 16, 74, 88] (fun s11 s12 _ _ _ _ _ _ wr => ∃ (i k : Nat) (S : Nat → Prop) (t : St), i ≤ 50 ∧ k ≤ i ∧ s11 = .int .i64 k ∧ s12 = .int .i64 i ∧ Hid (Ob Slt w w.heap.size p S t [] wr)) (fun _ s12 _ _ _ _ _ _ _ => 50 - (intOf s12).toNat)
      case atStart => exact ⟨0, 0, S5, newT s, by omega, by omega, rfl, rfl, HO5.out⟩
      case round =>
        obtain ⟨i, k, S, t, h50, hki, rfl, rfl, HO⟩ := hrel
        clear HO5
        by_cases hlt : i < n1 ∧ i < 50
        · obtain ⟨i1, i50⟩ := hlt
          have i1z : (i : Int) < n1 := by omega
          have i50z : (i : Int) < 50 := by omega
          obtain ⟨d, hd⟩ : ∃ y, ds[i]? = some y := ⟨ds[i]'(by have := HN1.out; omega), List.getElem?_eq_getElem (by have := HN1.out; omega)⟩
          obtain ⟨b1, o1, rfl, hd1⟩ : ∃ b off, a1 = some ⟨b, off, none⟩ ∧ wr.cell? ⟨b, off + i, none⟩ = some (.int .i64 d) := by
            rcases HR1.out.below HO.out.lo with h | ⟨b, off, h1, h2⟩
            · rw [h] at hd; simp at hd
            · exact ⟨b, off, h1, h2 i d hd⟩
          clear hd
          go_upto_block 2 with (fail)
          go_cut [11] from 58 to 152 (fun s11 w' => ∃ (k : Nat) (S : Nat → Prop) (t : St), k ≤ i + 1 ∧ s11 = .int .i64 k ∧ Hid (Ob Slt w w.heap.size p S t [] w'))
          case first =>
            by_cases hd0 : d = 0
            · subst hd0
              by_cases hk2 : k < n2
              · have hk2z : (k : Int) < n2 := by omega
                obtain ⟨⟨nm, v, cd, pp, aa⟩, hsk⟩ : ∃ y, ls[k]? = some y := ⟨ls[k]'(by have := HN2.out; omega), List.getElem?_eq_getElem (by have := HN2.out; omega)⟩
                have PU : Hid (Calls Try.prog 6 #[p, .agg #[.string nm, .int .i64 v, .string cd, .int .i64 pp, .int .i64 aa]] wr fun e w' => ∃ S', e = .returned (errV 51 (putE t ⟨nm, v, cd, pp, aa⟩)) ∧ Slt w' w.heap.size p S' (putT t ⟨nm, v, cd, pp, aa⟩) ∧ Only S wr w' ∧ (∀ b, S' b → S b ∨ wr.heap.size ≤ b)) := HLU.out p S t ⟨nm, v, cd, pp, aa⟩ wr w.heap.size HO.out.n (HS2.out _ (List.mem_of_getElem? hsk)) HO.out.hb
                obtain ⟨b2, o2, rfl, hcell⟩ := (HR2.out.below HO.out.lo).at hsk
                have l0 := hcell 0 (.string nm) rfl
                have l1 := hcell 1 (.int .i64 v) rfl
                have l2 := hcell 2 (.string cd) rfl
                have l3 := hcell 3 (.int .i64 pp) rfl
                have l4 := hcell 4 (.int .i64 aa) rfl
                simp only [Nat.add_zero] at l0
                clear hcell hsk
                generalize putE t ⟨nm, v, cd, pp, aa⟩ = pe at *
                go_wp2_with (fail)
                refine PU.out.mono ?_
                rintro e w2 ⟨S2, rfl, hn2, ho2, hf2⟩
                have HO2 := hide (HO.out.step HL.out hn2 ho2 hf2)
                clear hn2 ho2 hf2 HO PU l0 l1 l2 l3 l4 hd1
                go_wp2
                go_meet
                exact ⟨k + 1, _, _, by omega, by go_num, HO2.out⟩
              · have hk2z : ¬ (k : Int) < n2 := by omega
                go_wp2
                go_meet
                exact ⟨k, _, _, by omega, rfl, HO.out⟩
            · by_cases hd2 : d = 1
              · subst hd2
                go_wp2_with (fail)
                refine (HL.out.good p S t _ w.heap.size HO.out.n HO.out.hb).mono ?_
                rintro e w2 ⟨S2, rfl, hn2, ho2, hf2⟩
                have HO2 := hide (HO.out.step HL.out hn2 ho2 hf2)
                clear hn2 ho2 hf2 HO hd1
                generalize goodE t = ge at *
                go_wp2
                go_meet
                exact ⟨k, _, _, by omega, rfl, HO2.out⟩
              · go_wp2_with (fail)
                refine (HL.out.start p S t _ w.heap.size HO.out.n HO.out.hb).mono ?_
                rintro e w2 ⟨S2, rfl, hn2, ho2, hf2⟩
                have HO2 := hide (HO.out.step HL.out hn2 ho2 hf2)
                clear hn2 ho2 hf2 HO hd1
                generalize sgA (t.at (pickT t)).s = sv at *
                go_wp2
                go_meet
                exact ⟨k, _, _, by omega, rfl, HO2.out⟩
          case rest =>
          obtain ⟨k', S', t', hk', rfl, HO2⟩ := hcut
          clear HO hd1
          have OK := hide (HL.out.ok HO2.out.n)
          obtain ⟨⟨⟨xn, xv, xc, xp, xa⟩, xf, xt, xg⟩, ⟨⟨yn, yv, yc, yp, ya⟩, yf, yt, yg⟩, r⟩ := t'
          have A0 : Hid (∀ (W : World), Slt W w.heap.size p S' ⟨⟨⟨xn, xv, xc, xp, xa⟩, xf, xt, xg⟩, ⟨⟨yn, yv, yc, yp, ya⟩, yf, yt, yg⟩, r⟩ → Calls Try.prog 10 #[p, .int .i64 0] W fun e w' => e = .returned (.tuple #[.agg #[.string xn, .int .i64 xv, .string xc, .int .i64 xp, .int .i64 xa, .bool xf, .int .i64 xt, .bool xg], .nilIface]) ∧ Below W.heap.size W w') := fun W h => HL.out.at' p S' _ 0 W w.heap.size h
          have A1 : Hid (∀ (W : World), Slt W w.heap.size p S' ⟨⟨⟨xn, xv, xc, xp, xa⟩, xf, xt, xg⟩, ⟨⟨yn, yv, yc, yp, ya⟩, yf, yt, yg⟩, r⟩ → Calls Try.prog 10 #[p, .int .i64 1] W fun e w' => e = .returned (.tuple #[.agg #[.string yn, .int .i64 yv, .string yc, .int .i64 yp, .int .i64 ya, .bool yf, .int .i64 yt, .bool yg], .nilIface]) ∧ Below W.heap.size W w') := fun W h => HL.out.at' p S' _ 1 W w.heap.size h
          obtain ⟨x1, x2⟩ := OK.out.x
          obtain ⟨y1, y2⟩ := OK.out.y
          simp only [] at x1 x2 y1 y2
          have FA := hide (ok_facts OK.out)
          simp only [] at FA
          clear OK
          go_wp2_with (fail)
          refine (A0.out _ HO2.out.n).mono ?_
          rintro e w2 ⟨rfl, hb2⟩
          have HOA := hide ((HO2.out.below HL.out hb2).alloc HL.out (.cells #[.string xn, .int .i64 xv, .string xc, .int .i64 xp, .int .i64 xa, .bool xf, .int .i64 xt, .bool xg] 41))
          clear hb2 HO2 A0
          go_wp2_with (fail)
          refine (A1.out _ HOA.out.n).mono ?_
          rintro e w3 ⟨rfl, hb3⟩
          have HOB := hide ((HOA.out.below HL.out hb3).alloc HL.out (.cells #[.string yn, .int .i64 yv, .string yc, .int .i64 yp, .int .i64 ya, .bool yf, .int .i64 yt, .bool yg] 41))
          clear hb3 HOA A1
          obtain ⟨_, _, _, _, _, m5, m6, m7⟩ := eight (HOB.out.ks (w2.heap.size, _) (List.mem_cons_of_mem _ (List.mem_cons_self ..))).1
          obtain ⟨_, _, _, _, _, j5, j6, j7⟩ := eight (HOB.out.ks (w3.heap.size, _) (List.mem_cons_self ..)).1
          rcases FA.out with ⟨rfl, rfl, rfl, _⟩ | ⟨rfl, rfl, rfl, _⟩
          · go_wp2
            go_roundw
            case rel => exact ⟨i + 1, k', S', _, by omega, by omega, rfl, by go_num, HOB.out.less (by intro x hx; cases hx)⟩
            case measure => simp [intOf]; omega
          · go_wp2
            go_roundw
            case rel => exact ⟨i + 1, k', S', _, by omega, by omega, rfl, by go_num, HOB.out.less (by intro x hx; cases hx)⟩
            case measure => simp [intOf]; omega
        · by_cases h1 : i < n1
          · have h1z : (i : Int) < n1 := by omega
            have h3z : ¬ (i : Int) < 50 := by omega
            clear hlt
            go_wp2
            go_meet
            exact ⟨_, _, HO.out⟩
          · have h1z : ¬ (i : Int) < n1 := by omega
            clear hlt
            go_wp2
            go_meet
            exact ⟨_, _, HO.out⟩
    case rest =>
    obtain ⟨S6, t6, HO6⟩ := hcut
    clear HO5
    go_wp2
    go_loopw [17, 18, 19, 20, 21] (fun s17 _ _ _ _ wr => ∃ (i : Nat) (S : Nat → Prop) (t : St), i ≤ 4 ∧ s17 = .int .i64 i ∧ Hid (Ob Slt w w.heap.size p S t [] wr) ∧ Hid (leftT t ≤ max 0 (3 - (i : Int)))) (fun s17 _ _ _ _ _ => 4 - (intOf s17).toNat)
    case atStart => exact ⟨0, S6, t6, by omega, rfl, HO6.out, (show leftT t6 ≤ max 0 (3 - ((0 : Nat) : Int)) by have := left_le (HL.out.ok HO6.out.n); omega)⟩
    case round =>
      obtain ⟨i, S, t, h4, rfl, HO, HF⟩ := hrel
      clear HO6
      by_cases hi : i < 4
      · have hiz : (i : Int) < 4 := by omega
        have OK := hide (HL.out.ok HO.out.n)
        have FA := hide (pick_facts OK.out HF.out)
        have LS := hide (left_start OK.out)
        have PK := hide (HLP.out p S t wr w.heap.size HO.out.n)
        have AT := hide (fun (W : World) (h : Slt W w.heap.size p S t) => HL.out.at' p S t (idx (pickT t)) W w.heap.size h)
        have ST := hide (fun (W : World) (h : Slt W w.heap.size p S t) (hb : w.heap.size ≤ W.heap.size) => HL.out.start p S t W w.heap.size h hb)
        have EL := hide (show atL t (idx (pickT t)) = t.at (pickT t) by cases pickT t <;> rfl)
        have EE := hide (show atE (idx (pickT t)) = 0 by cases pickT t <;> rfl)
        rw [EL.out, EE.out] at AT
        obtain ⟨⟨⟨nm, v, cd, pp, aa⟩, lf, lt, lg⟩, hl⟩ : ∃ l, t.at (pickT t) = l := ⟨_, rfl⟩
        rw [hl] at FA AT ST
        unfold slA at AT
        unfold sgA at ST
        simp only [] at FA AT ST
        rw [errV_zero] at AT
        have HSU := hide (show leftT (startT t) ≤ max 0 (3 - ((i + 1 : Nat) : Int)) by have h1 := LS.out; have h2 := HF.out; omega)
        have IX := hide (idx_is (pickT t))
        clear EL EE LS hl OK HF
        generalize idx (pickT t) = kk at *
        rcases FA.out with ⟨rfl, hg⟩
        have HGD := hide hg
        clear FA hg
        rcases IX.out with rfl | rfl
        · rcases HGD.out with rfl | ⟨rfl, ht0, hi3⟩
          · go_wp2_with (fail)
            refine PK.out.mono ?_
            rintro e w2 ⟨rfl, hb2⟩
            have HO2 := hide (HO.out.below HL.out hb2)
            clear hb2 HO PK
            go_wp2_with (fail)
            refine (AT.out _ HO2.out.n).mono ?_
            rintro e w3 ⟨rfl, hb3⟩
            have HO3 := hide ((HO2.out.below HL.out hb3).alloc HL.out (.cells #[.string nm, .int .i64 v, .string cd, .int .i64 pp, .int .i64 aa, .bool true, .int .i64 lt, .bool true] 41))
            clear hb3 HO2 AT
            go_wp2_with (fail)
            refine (ST.out _ HO3.out.n HO3.out.hb).mono ?_
            rintro e w4 ⟨S4, rfl, hn4, ho4, hf4⟩
            have HO4 := hide ((HO3.out.step HL.out hn4 ho4 hf4).alloc HL.out (.cells #[.string nm, .int .i64 v, .string cd, .int .i64 pp, .int .i64 aa] 27))
            clear hn4 ho4 hf4 HO3 ST
            obtain ⟨m0, m1, m2, m3, m4, m5, m6, m7⟩ := eight (HO4.out.ks (w3.heap.size, _) (List.mem_cons_of_mem _ (List.mem_cons_self ..))).1
            obtain ⟨j0, j1, j2, j3, j4⟩ := five (HO4.out.ks (w4.heap.size, _) (List.mem_cons_self ..)).1
            by_cases h3 : (i : Int) = 3
            · go_wp2
              go_roundw
              case rel => exact ⟨i + 1, S4, _, by omega, by go_num, HO4.out.less (by intro x hx; cases hx), HSU.out⟩
              case measure => simp [intOf]; omega
            · go_wp2
              go_roundw
              case rel => exact ⟨i + 1, S4, _, by omega, by go_num, HO4.out.less (by intro x hx; cases hx), HSU.out⟩
              case measure => simp [intOf]; omega
          · go_wp2_with (fail)
            refine PK.out.mono ?_
            rintro e w2 ⟨rfl, hb2⟩
            have HO2 := hide (HO.out.below HL.out hb2)
            clear hb2 HO PK
            go_wp2_with (fail)
            refine (AT.out _ HO2.out.n).mono ?_
            rintro e w3 ⟨rfl, hb3⟩
            have HO3 := hide ((HO2.out.below HL.out hb3).alloc HL.out (.cells #[.string nm, .int .i64 v, .string cd, .int .i64 pp, .int .i64 aa, .bool true, .int .i64 lt, .bool false] 41))
            clear hb3 HO2 AT
            go_wp2_with (fail)
            refine (ST.out _ HO3.out.n HO3.out.hb).mono ?_
            rintro e w4 ⟨S4, rfl, hn4, ho4, hf4⟩
            have HO4 := hide ((HO3.out.step HL.out hn4 ho4 hf4).alloc HL.out (.cells #[.string nm, .int .i64 v, .string cd, .int .i64 pp, .int .i64 aa] 27))
            clear hn4 ho4 hf4 HO3 ST
            obtain ⟨m0, m1, m2, m3, m4, m5, m6, m7⟩ := eight (HO4.out.ks (w3.heap.size, _) (List.mem_cons_of_mem _ (List.mem_cons_self ..))).1
            obtain ⟨j0, j1, j2, j3, j4⟩ := five (HO4.out.ks (w4.heap.size, _) (List.mem_cons_self ..)).1
            have h3 : ¬ (i : Int) = 3 := by omega
            go_wp2
            go_roundw
            case rel => exact ⟨i + 1, S4, _, by omega, by go_num, HO4.out.less (by intro x hx; cases hx), HSU.out⟩
            case measure => simp [intOf]; omega
        · rcases HGD.out with rfl | ⟨rfl, ht0, hi3⟩
          · go_wp2_with (fail)
            refine PK.out.mono ?_
            rintro e w2 ⟨rfl, hb2⟩
            have HO2 := hide (HO.out.below HL.out hb2)
            clear hb2 HO PK
            go_wp2_with (fail)
            refine (AT.out _ HO2.out.n).mono ?_
            rintro e w3 ⟨rfl, hb3⟩
            have HO3 := hide ((HO2.out.below HL.out hb3).alloc HL.out (.cells #[.string nm, .int .i64 v, .string cd, .int .i64 pp, .int .i64 aa, .bool true, .int .i64 lt, .bool true] 41))
            clear hb3 HO2 AT
            go_wp2_with (fail)
            refine (ST.out _ HO3.out.n HO3.out.hb).mono ?_
            rintro e w4 ⟨S4, rfl, hn4, ho4, hf4⟩
            have HO4 := hide ((HO3.out.step HL.out hn4 ho4 hf4).alloc HL.out (.cells #[.string nm, .int .i64 v, .string cd, .int .i64 pp, .int .i64 aa] 27))
            clear hn4 ho4 hf4 HO3 ST
            obtain ⟨m0, m1, m2, m3, m4, m5, m6, m7⟩ := eight (HO4.out.ks (w3.heap.size, _) (List.mem_cons_of_mem _ (List.mem_cons_self ..))).1
            obtain ⟨j0, j1, j2, j3, j4⟩ := five (HO4.out.ks (w4.heap.size, _) (List.mem_cons_self ..)).1
            by_cases h3 : (i : Int) = 3
            · go_wp2
              go_roundw
              case rel => exact ⟨i + 1, S4, _, by omega, by go_num, HO4.out.less (by intro x hx; cases hx), HSU.out⟩
              case measure => simp [intOf]; omega
            · go_wp2
              go_roundw
              case rel => exact ⟨i + 1, S4, _, by omega, by go_num, HO4.out.less (by intro x hx; cases hx), HSU.out⟩
              case measure => simp [intOf]; omega
          · go_wp2_with (fail)
            refine PK.out.mono ?_
            rintro e w2 ⟨rfl, hb2⟩
            have HO2 := hide (HO.out.below HL.out hb2)
            clear hb2 HO PK
            go_wp2_with (fail)
            refine (AT.out _ HO2.out.n).mono ?_
            rintro e w3 ⟨rfl, hb3⟩
            have HO3 := hide ((HO2.out.below HL.out hb3).alloc HL.out (.cells #[.string nm, .int .i64 v, .string cd, .int .i64 pp, .int .i64 aa, .bool true, .int .i64 lt, .bool false] 41))
            clear hb3 HO2 AT
            go_wp2_with (fail)
            refine (ST.out _ HO3.out.n HO3.out.hb).mono ?_
            rintro e w4 ⟨S4, rfl, hn4, ho4, hf4⟩
            have HO4 := hide ((HO3.out.step HL.out hn4 ho4 hf4).alloc HL.out (.cells #[.string nm, .int .i64 v, .string cd, .int .i64 pp, .int .i64 aa] 27))
            clear hn4 ho4 hf4 HO3 ST
            obtain ⟨m0, m1, m2, m3, m4, m5, m6, m7⟩ := eight (HO4.out.ks (w3.heap.size, _) (List.mem_cons_of_mem _ (List.mem_cons_self ..))).1
            obtain ⟨j0, j1, j2, j3, j4⟩ := five (HO4.out.ks (w4.heap.size, _) (List.mem_cons_self ..)).1
            have h3 : ¬ (i : Int) = 3 := by omega
            go_wp2
            go_roundw
            case rel => exact ⟨i + 1, S4, _, by omega, by go_num, HO4.out.less (by intro x hx; cases hx), HSU.out⟩
            case measure => simp [intOf]; omega
      · have hiz : ¬ (i : Int) < 4 := by omega
        go_wp2
        go_ret
        exact ⟨rfl, HO.out.lo⟩
  · have NW := hide (HL.out.newNo s w4 HSZ.out hE)
    have CK := hide (fun (W : World) => Image.check_any s.nm s.cd s.v W HSZ.out.1 HSZ.out.2)
    unfold sgA at NW
    unfold imgC at CK
    rw [errV_ne hE] at NW
    have HX := hide (errV_ne (T := 51) (show ¬ imgE s.nm s.v s.cd = 0 from hE))
    rw [HX.out] at CK
    clear hE
    generalize sgE s = ie at *
    generalize imgE s.nm s.v s.cd = je at *
    go_wp2_with (fail)
    refine NW.out.mono ?_
    rintro e w5 ⟨rfl, hb5⟩
    have HB5 := hide (below_on HB4.out hb5)
    have HP5 := hide (blk_below HP4.out hb5)
    clear hb5 HB4 HP4 p0 p1 p2 p3 p4 NW
    obtain ⟨p0, p1, p2, p3, p4⟩ := five HP5.out
    go_wp2_with (fail)
    refine (CK.out _).mono ?_
    rintro e w6 ⟨rfl, hb6⟩
    have HB6 := hide (below_on HB5.out hb6)
    clear hb6
    go_wp2
    go_ret
    exact ⟨rfl, HB6.out⟩
end Go.Proofs.Ytohojmfhmpgcmaa.SlotSafe
