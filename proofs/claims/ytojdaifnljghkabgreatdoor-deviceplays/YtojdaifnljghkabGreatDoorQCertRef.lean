/-
  Contract of what package stairref1 says on certs (Last): it returns what the plain mathematics says, and memory that was there stays as it was.
-/
import Derived.Test.YtojdaifnljghkabGreatDoorQKeyRef2
import Derived.Test.YtojdaifnljghkabGreatDoorPack1
import Derived.Deep.RegionHeld3
namespace Go.Proofs.YtojdaifnljghkabGreatDoor.Ref
open Go.ChangeShapes Go.WideShapes Go.ChangeAt Go.RowKit
open Go.Proofs.YtojdaifnljghkabGreatDoor.M Go.Proofs.YtojdaifnljghkabGreatDoor.Key
set_option linter.unusedVariables false

theorem cert_cells {w : World} {b o : Nat} {c : Int × Int × Int} (h : ∀ (j : Nat) (v : Value), (certV c)[j]? = some v → w.cell? ⟨b, o + j, none⟩ = some v) :
    w.cell? ⟨b, o, none⟩ = some (.int .i64 c.1) ∧ w.cell? ⟨b, o + 1, none⟩ = some (.int .i64 c.2.1) ∧ w.cell? ⟨b, o + 2, none⟩ = some (.int .i64 c.2.2) :=
  ⟨h 0 _ rfl, h 1 _ rfl, h 2 _ rfl⟩

/-- A cert lies at an address, and all that was there is as it was. -/
def Held (w0 : World) (b o : Nat) (x y z : Int) (W : World) : Prop :=
  Below w0.heap.size w0 W ∧ w0.cell? ⟨b, o, none⟩ = some (.int .i64 x) ∧ w0.cell? ⟨b, o + 1, none⟩ = some (.int .i64 y) ∧ w0.cell? ⟨b, o + 2, none⟩ = some (.int .i64 z)
section
variable {w0 W W' : World} {b o : Nat} {x y z : Int}
theorem held_S (h : Held w0 b o x y z W) : W.cell? ⟨b, o, none⟩ = some (.int .i64 x) ∧ W.cell? ⟨b, o + 1, none⟩ = some (.int .i64 y) ∧ W.cell? ⟨b, o + 2, none⟩ = some (.int .i64 z) ∧ Held w0 b o x y z W := by
  obtain ⟨hb, h0, h1, h2⟩ := h
  have hl : b < w0.heap.size := World.block_lt_of_cell? w0 _ h0
  exact ⟨(hb.cell (p := ⟨b, o, none⟩) hl).trans h0, (hb.cell (p := ⟨b, o + 1, none⟩) hl).trans h1, (hb.cell (p := ⟨b, o + 2, none⟩) hl).trans h2, hb, h0, h1, h2⟩
theorem held_drew (h : Held w0 b o x y z W) : Held w0 b o x y z W.drew := ⟨Below.drew h.1, h.2⟩
theorem held_below (h : Held w0 b o x y z W) (hb : Below W.heap.size W W') : Held w0 b o x y z W' := ⟨below_on h.1 hb, h.2⟩
end

set_option maxHeartbeats 4000000 in
theorem last_any (root : Int) (a : Option Addr) (l : List (Int × Int × Int)) (n cap : Nat) (w : World) (hn : n = l.length) (hm : n ≤ maxLen) (hr : RRow 3 certV w a l) :
    Calls Tryz.prog 106 #[.int .i64 root, .slice a n cap] w fun e w' => e = .returned (.tuple #[.int .i64 (lastV root l), .int .i64 (lastC root l)]) ∧ Below w.heap.size w w' := by
  have hm' : n ≤ 9223372036854775807 := by unfold maxLen at hm; omega
  have HN := hide hn
  have HR := hide hr
  clear hn hr hm
  by_cases h12 : 12 < n
  · obtain ⟨e1, e2⟩ := lastO_full (root := root) (l := l) (by have := HN.out; omega)
    rw [e1, e2]
    have hz : (12 : Int) < n := by omega
    go_enter Tryz.func106, Tryz.ntmps106
    go_wp2
    go_ret2
    exact ⟨rfl, Below.refl _ _⟩
  · have hz : ¬ (12 : Int) < n := by omega
    have hL : ¬ 12 < l.length := by have := HN.out; omega
    cases hi : inB root with
    | false =>
      obtain ⟨e1, e2⟩ := lastO_root hL hi
      rw [e1, e2]
      go_enter Tryz.func106, Tryz.ntmps106
      go_wp2_with (go_at_call 17; refine (in_any _ _).mono ?_; rintro e w' ⟨rfl, rfl⟩)
      go_ret2
      exact ⟨rfl, Below.refl _ _⟩
    | true =>
      obtain ⟨e1, e2⟩ := lastO_go hL hi
      rw [e1, e2]
      clear e1 e2 hL
      go_enter Tryz.func106, Tryz.ntmps106
      go_wp2_with (go_at_call 17; refine (in_any _ _).mono ?_; rintro e w ⟨rfl, rfl⟩)
      go_loopw [0, 7] (fun r i wr => ∃ (k : Nat) (cur : Int), k ≤ n ∧ i = .int .i64 k ∧ r = .int .i64 cur ∧ Hid (lastF root l = lastF cur (l.drop k)) ∧ Hid (Below w.heap.size w wr)) (fun _ i _ => n - (intOf i).toNat)
      case atStart => exact ⟨0, root, by omega, rfl, rfl, rfl, Below.refl _ _⟩
      case round =>
        obtain ⟨k, cur, hk, rfl, rfl, HF, HB⟩ := hrel
        by_cases hlt : k < n
        · have hlz : (k : Int) < n := by omega
          obtain ⟨⟨ck, cp, ca⟩, hc⟩ : ∃ c, l[k]? = some c := ⟨l[k]'(by have := HN.out; omega), List.getElem?_eq_getElem (by have := HN.out; omega)⟩
          have HD := hide (show l.drop k = (ck, cp, ca) :: l.drop (k + 1) by
            obtain ⟨h1, h2⟩ := List.getElem?_eq_some_iff.1 hc
            rw [List.drop_eq_getElem_cons h1, h2])
          obtain ⟨b, off, rfl, hcell⟩ := (HR.out.below HB.out).at hc
          obtain ⟨c0, c1, c2⟩ := cert_cells hcell
          clear hc hcell
          simp only [] at c0 c1 c2
          go_wp2_with (fail)
          refine (in_any _ _).mono ?_
          rintro e wr ⟨rfl, rfl⟩
          cases hin : inB ck with
          | false =>
            have E := hide (show lastF root l = (0, 1) by rw [HF.out, HD.out, lastF_in hin])
            go_wp2
            go_ret2
            exact ⟨by rw [E.out]; rfl, HB.out⟩
          | true =>
            have RG := hide (fun W => right_any cur ck cp ca W)
            unfold sealC at RG
            have HO := hide (fun h => lastF_ok (root := cur) (c := (ck, cp, ca)) (r := l.drop (k + 1)) hin h)
            have HE := hide (fun h => lastF_bad (root := cur) (c := (ck, cp, ca)) (r := l.drop (k + 1)) hin h)
            simp only [] at HO HE
            generalize rigC cur ck cp ca = rc at *
            go_upto_region 12 with (fail)
            go_cut [8] (fun s8 w' => s8 = .int .i64 rc ∧ Below wr.heap.size wr w')
            case first =>
              have hH : Held wr b (off + k * 3) ck cp ca wr := ⟨Below.refl _ _, c0, c1, c2⟩
              go_region_held3 (fun w' => w'.cell? ⟨b, off + k * 3, none⟩ = some (.int .i64 ck) ∧ w'.cell? ⟨b, off + k * 3 + 1, none⟩ = some (.int .i64 cp) ∧ w'.cell? ⟨b, off + k * 3 + 2, none⟩ = some (.int .i64 ca) ∧ Held wr b (off + k * 3) ck cp ca w')
                (exact held_S (by repeat (first | assumption | apply held_drew)))
                (first | (go_at_call 133; refine (RG.out _).mono ?_; rintro e w5 ⟨rfl, hb5⟩; have h5 : Held wr b (off + k * 3) ck cp ca w5 := held_below (by repeat (first | assumption | apply held_drew)) hb5; clear hb5; obtain ⟨m0, m1, m2, _⟩ := held_S h5))
              all_goals
                go_wp2
                go_meet
                exact ⟨rfl, (show Held wr b (off + k * 3) ck cp ca _ by repeat (first | assumption | apply held_drew)).1⟩
            case rest =>
            obtain ⟨rfl, hb6⟩ := hcut
            obtain ⟨w6, hwa⟩ : ∃ wa, wa = wc := ⟨_, rfl⟩
            subst hwa
            have HB6 := hide (below_on HB.out hb6)
            have HL := hide (World.block_lt_of_cell? wr _ c0)
            have d0 : w6.cell? ⟨b, off + k * 3, none⟩ = some (.int .i64 ck) := (hb6.cell (p := ⟨b, off + k * 3, none⟩) HL.out).trans c0
            clear hb6 c0 c1 c2 HB HL RG
            by_cases hz : rc = 0
            · have E := hide (HF.out.trans ((congrArg (lastF cur) HD.out).trans (HO.out hz)))
              go_wp2
              go_roundw
              case rel => exact ⟨k + 1, ck, by omega, by go_num, rfl, E.out, HB6.out⟩
              case measure => simp [intOf]; omega
            · have E := hide (HF.out.trans ((congrArg (lastF cur) HD.out).trans (HE.out hz)))
              go_wp2
              go_ret2
              exact ⟨by rw [E.out]; rfl, HB6.out⟩
        · have hlz : ¬ (k : Int) < n := by omega
          have E := hide (show lastF root l = (cur, 0) by rw [HF.out, List.drop_eq_nil_of_le (by have := HN.out; omega), lastF_nil])
          go_wp2
          go_ret2
          exact ⟨by rw [E.out]; rfl, HB.out⟩
end Go.Proofs.YtojdaifnljghkabGreatDoor.Ref
