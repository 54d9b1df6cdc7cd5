/-
  Contracts of package cert's Make and Last over this translation: what each returns, and that memory that was there stays as it was.
-/
import Derived.Test.YtojdaifnljghkabGreatDoorPack1
namespace Go.Proofs.YtojdaifnljghkabGreatDoor.Cert
open Go.ChangeShapes Go.WideShapes Go.ChangeAt Go.RowKit
open Go.Proofs.YtojdaifnljghkabGreatDoor.M Go.Proofs.YtojdaifnljghkabGreatDoor.Key
set_option linter.unusedVariables false

/-- The cells of a cert, laid in a block of its own. -/
def certC (c : Int × Int × Int) : Array Value := #[.int .i64 c.1, .int .i64 c.2.1, .int .i64 c.2.2]
theorem cells3 {w : World} {b : Nat} {x y z : Value} {t : TypeId} {fr : Nat × Nat} (h : w.heap[b]? = some (.cells #[x, y, z] t fr)) :
    w.cell? ⟨b, 0, none⟩ = some x ∧ w.cell? ⟨b, 1, none⟩ = some y ∧ w.cell? ⟨b, 2, none⟩ = some z := by
  refine ⟨?_, ?_, ?_⟩ <;> rw [cell_of_row w b _ _ t fr h] <;> rfl
theorem free3 {w : World} {b : Nat} {c : Array Value} {t : TypeId} (h : w.heap[b]? = some (.cells c t)) :
    w.frozen? ⟨b, 0, none⟩ = false ∧ w.frozen? ⟨b, 1, none⟩ = false ∧ w.frozen? ⟨b, 2, none⟩ = false := ⟨frozen_of_row w b 0 _ _ h, frozen_of_row w b 1 _ _ h, frozen_of_row w b 2 _ _ h⟩
theorem set3 {w : World} {b : Nat} {a0 a1 a2 x y z : Value} {t : TypeId} {fr : Nat × Nat} (hg : w.heap[b]? = some (.cells #[a0, a1, a2] t fr)) :
    ((w.setCell ⟨b, 0, none⟩ x).setCell ⟨b, 1, none⟩ y).setCell ⟨b, 2, none⟩ z = w.setRow b #[x, y, z] := by
  rw [setCell_eq_setRow w b 0 _ _ _ x hg]
  have h1 := setRow_heap w b _ (#[a0, a1, a2].setIfInBounds 0 x) t fr hg
  rw [setCell_eq_setRow _ b 1 _ _ _ y h1, setRow_setRow]
  have h2 := setRow_heap w b _ ((#[a0, a1, a2].setIfInBounds 0 x).setIfInBounds 1 y) t fr hg
  rw [setCell_eq_setRow _ b 2 _ _ _ z h2, setRow_setRow]
  rfl
theorem info_cert : (Tryz.prog.info? 92).map (·.size) = some 3 := by kernel_rfl
theorem load_cert {w : World} {b : Nat} {c : Array Value} {fr : Nat × Nat} (h : w.heap[b]? = some (.cells c 92 fr)) (hs : c.size = 3) : (loadVar 92 ⟨b, 0, none⟩).run Tryz.prog w = .ok (.agg c) w :=
  run_loadVar_row w b _ _ c fr _ h Tryz.underlying92 rfl (by rw [info_cert, hs])
theorem results_cert {fn : Func} {p u : Tmp} (h : fn.results = #[.cell p 92, .tmp u]) (tmps : Array Value) (w : World) (b : Nat) (c : Array Value) (v : Value) (hp : tmps.getD p undef = .pointer (some ⟨b, 0, none⟩)) (hu : tmps.getD u undef = v)
    (hg : w.heap[b]? = some (.cells c 92)) (hs : c.size = 3) : (results fn tmps).run Tryz.prog w = .ok (.tuple #[.agg c, v]) w := by
  rw [results_cell_tmp h, hp, hu]
  simp [asAddr, load_cert hg hs, Result.andThen]

set_option maxHeartbeats 2000000 in
theorem make_any (x k q : Int) (w : World) :
    Calls Tryz.prog 43 #[.int .i64 x, .int .i64 k, .int .i64 q] w fun e w' => e = .returned (.tuple #[.agg (certC (mkV x k q)), errV 96 (mkC x k q)]) ∧ Below w.heap.size w w' := by
  have HB0 := hide (below_new w (.cells #[.int .i64 0, .int .i64 0, .int .i64 0] 92))
  have HG0 := hide (blk_new w (.cells #[.int .i64 0, .int .i64 0, .int .i64 0] 92))
  cases hq : inB q with
  | false =>
    have e1 := mkC_no (x := x) (k := k) hq
    rw [mkV_no (x := x) (k := k) (q := q) (by rw [e1]; decide), e1]
    clear e1
    go_enter Tryz.func43, Tryz.ntmps43
    go_wp2_with (go_at_call 44; refine (public_is _ _).mono ?_; rintro e w ⟨rfl, rfl⟩)
    refine bodyPost_ret (v := .tuple #[.agg (certC (0, 0, 0)), .iface 96 (.int .i64 1)]) ?_ rfl ⟨?_, ?_⟩
    · exact results_cert (p := 6) (u := 7) rfl _ _ w.heap.size _ _ rfl rfl HG0.out rfl
    · rfl
    · exact HB0.out
  | true =>
    have SG := hide (fun W => sign_any x k q W)
    have E := hide (mkC_ok (x := x) (k := k) hq)
    have SC := hide (show sigC x k q = 0 ∨ sigC x k q = 1 by unfold sigC; split <;> simp)
    have V0 := hide (fun (h : sigC x k q = 0) => mkV_ok (x := x) (k := k) (q := q) (E.out.trans h))
    have V1 := hide (fun (h : ¬ sigC x k q = 0) => mkV_no (x := x) (k := k) (q := q) (fun e => h (E.out.symm.trans e)))
    rw [mkC_ok hq]
    unfold sealC at SG
    generalize sigC x k q = c at *
    generalize sigP x k q = p at *
    generalize sigA x k q = a at *
    generalize mkV x k q = v at *
    clear E
    go_enter Tryz.func43, Tryz.ntmps43
    go_wp2_with (go_at_call 44; refine (public_is _ _).mono ?_; rintro e w ⟨rfl, rfl⟩)
    refine (SG.out _).mono ?_
    rintro e w1 ⟨rfl, hb1⟩
    have HB1 := hide (below_on HB0.out hb1)
    have HG1 := hide (blk_below HG0.out hb1)
    have hlt := blk_lt (blk_below HG0.out hb1)
    obtain ⟨r0, r1, r2⟩ := cells3 (blk_below HG0.out hb1)
    obtain ⟨g0, g1, g2⟩ := free3 (blk_below HG0.out hb1)
    clear hb1 HB0 HG0
    rcases SC.out with rfl | rfl
    · have V := hide (V0.out rfl)
      clear V0 V1 SC
      rw [errV_zero]
      go_wp2
      rw [set3 HG1.out]
      refine bodyPost_ret (v := .tuple #[.agg (certC (q, p, a)), .nilIface]) ?_ rfl ⟨?_, ?_⟩
      · exact results_cert (p := 6) (u := 7) rfl _ _ w.heap.size _ _ rfl rfl (blk_keep (setRow_heap _ _ _ _ _ _ HG1.out) _) rfl
      · rw [V.out]; rfl
      · exact below_on (below_setRow HB1.out (by omega) _) (below_new _ _)
    · have V := hide (V1.out (by decide))
      clear V0 V1 SC
      rw [errV_one]
      go_wp2
      rw [set3 HG1.out]
      refine bodyPost_ret (v := .tuple #[.agg (certC (0, 0, 0)), .iface 96 (.int .i64 1)]) ?_ rfl ⟨?_, ?_⟩
      · exact results_cert (p := 6) (u := 7) rfl _ _ w.heap.size _ _ rfl rfl (blk_keep (setRow_heap _ _ _ _ _ _ HG1.out) _) rfl
      · rw [V.out]; rfl
      · exact below_on (below_setRow HB1.out (by omega) _) (below_new _ _)

theorem cert_cells {w : World} {b o : Nat} {c : Int × Int × Int} (h : ∀ (j : Nat) (v : Value), (certV c)[j]? = some v → w.cell? ⟨b, o + j, none⟩ = some v) :
    w.cell? ⟨b, o, none⟩ = some (.int .i64 c.1) ∧ w.cell? ⟨b, o + 1, none⟩ = some (.int .i64 c.2.1) ∧ w.cell? ⟨b, o + 2, none⟩ = some (.int .i64 c.2.2) :=
  ⟨h 0 _ rfl, h 1 _ rfl, h 2 _ rfl⟩

/-- What keeps a cert from standing behind a key that is trusted. -/
def folC (cur : Int) (c : Int × Int × Int) : Int := if inB c.1 = true then rigC cur c.1 c.2.1 c.2.2 else 1
theorem folC_in {cur : Int} {c : Int × Int × Int} (h : inB c.1 = false) : folC cur c = 1 := by unfold folC; rw [h]; rfl
theorem folC_ok {cur : Int} {c : Int × Int × Int} (h : inB c.1 = true) : folC cur c = rigC cur c.1 c.2.1 c.2.2 := if_pos h
theorem folC_is (cur : Int) (c : Int × Int × Int) : folC cur c = 0 ∨ folC cur c = 8 ∨ folC cur c = 1 := by
  cases h : inB c.1 with
  | false => exact Or.inr (Or.inr (folC_in h))
  | true =>
    rw [folC_ok h]
    rcases rig_chk cur c.1 c.2.1 c.2.2 with ⟨h, _⟩ | ⟨h, _⟩ | ⟨h, _⟩
    · exact Or.inl h
    · exact Or.inr (Or.inl h)
    · exact Or.inr (Or.inr h)
theorem lastF_fol {cur : Int} {c : Int × Int × Int} {r : List (Int × Int × Int)} (h : folC cur c = 0) : lastF cur (c :: r) = lastF c.1 r := by
  cases hc : inB c.1 with
  | false => rw [folC_in hc] at h; cases h
  | true => rw [folC_ok hc] at h; exact lastF_ok hc h
theorem lastF_not {cur : Int} {c : Int × Int × Int} {r : List (Int × Int × Int)} (h : ¬ folC cur c = 0) : lastF cur (c :: r) = (0, folC cur c) := by
  cases hc : inB c.1 with
  | false => rw [folC_in hc, lastF_in hc]
  | true => rw [folC_ok hc] at h ⊢; exact lastF_bad hc h

set_option maxHeartbeats 2000000 in
theorem follows_any (cur ck cp ca : Int) (w : World) :
    Calls Tryz.prog 141 #[.int .i64 cur, .agg (certC (ck, cp, ca))] w fun e w' => e = .returned (errV 96 (folC cur (ck, cp, ca))) ∧ Below w.heap.size w w' := by
  have HB0 := hide (below_new w (.cells (certC (ck, cp, ca)) 92))
  have HG0 := hide (blk_new w (.cells (certC (ck, cp, ca)) 92))
  unfold certC at HB0 HG0 ⊢
  simp only [] at HB0 HG0 ⊢
  cases hin : inB ck with
  | false =>
    rw [folC_in (c := (ck, cp, ca)) hin]
    go_enter Tryz.func141, Tryz.ntmps141
    go_wp2_with (go_at_call 44; refine (public_is _ _).mono ?_; rintro e w ⟨rfl, rfl⟩)
    go_ret
    exact ⟨rfl, HB0.out⟩
  | true =>
    rw [folC_ok (c := (ck, cp, ca)) hin]
    have CK := hide (fun W => hold_any cur ck cp ca W)
    unfold sealC at CK
    simp only []
    generalize rigC cur ck cp ca = rc at *
    go_enter Tryz.func141, Tryz.ntmps141
    go_wp2_with (go_at_call 44; refine (public_is _ _).mono ?_; rintro e w ⟨rfl, rfl⟩)
    refine (CK.out _).mono ?_
    rintro e w2 ⟨rfl, hb2⟩
    have HB2 := hide (below_on HB0.out hb2)
    clear hb2 HB0 HG0 CK
    go_wp2
    go_ret
    exact ⟨rfl, HB2.out⟩

set_option maxHeartbeats 4000000 in
theorem last_any (root : Int) (a : Option Addr) (l : List (Int × Int × Int)) (n cap : Nat) (w : World) (hn : n = l.length) (hm : n ≤ maxLen) (hr : RRow 3 certV w a l) :
    Calls Tryz.prog 124 #[.int .i64 root, .slice a n cap] w fun e w' => e = .returned (.tuple #[.int .i64 (lastV root l), errV 96 (lastC root l)]) ∧ Below w.heap.size w w' := by
  have hm' : n ≤ 9223372036854775807 := by unfold maxLen at hm; omega
  have HN := hide hn
  have HR := hide hr
  clear hn hr hm
  by_cases h12 : 12 < n
  · obtain ⟨e1, e2⟩ := lastO_full (root := root) (l := l) (by have := HN.out; omega)
    rw [e1, e2]
    have hz : (12 : Int) < n := by omega
    go_enter Tryz.func124, Tryz.ntmps124
    go_wp2
    go_ret2
    exact ⟨rfl, Below.refl _ _⟩
  · have hz : ¬ (12 : Int) < n := by omega
    have hL : ¬ 12 < l.length := by have := HN.out; omega
    cases hi : inB root with
    | false =>
      obtain ⟨e1, e2⟩ := lastO_root hL hi
      rw [e1, e2]
      go_enter Tryz.func124, Tryz.ntmps124
      go_wp2_with (go_at_call 44; refine (public_is _ _).mono ?_; rintro e w ⟨rfl, rfl⟩)
      go_ret2
      exact ⟨rfl, Below.refl _ _⟩
    | true =>
      obtain ⟨e1, e2⟩ := lastO_go hL hi
      rw [e1, e2]
      clear e1 e2 hL
      go_enter Tryz.func124, Tryz.ntmps124
      go_wp2_with (go_at_call 44; refine (public_is _ _).mono ?_; rintro e w ⟨rfl, rfl⟩)
      go_loopw [6, 21] (fun r i wr => ∃ (k : Nat) (cur : Int), k ≤ n ∧ i = .int .i64 k ∧ r = .int .i64 cur ∧ Hid (lastF root l = lastF cur (l.drop k)) ∧ Hid (Below w.heap.size w wr)) (fun _ i _ => n - (intOf i).toNat)
      case atStart => exact ⟨0, root, by omega, rfl, rfl, rfl, Below.refl _ _⟩
      case round =>
        obtain ⟨k, cur, hk, rfl, rfl, HF, HB⟩ := hrel
        by_cases hlt : k < n
        · have hlz : (k : Int) < n := by omega
          obtain ⟨⟨ck, cp, ca⟩, hc⟩ : ∃ c, l[k]? = some c := ⟨l[k]'(by have := HN.out; omega), List.getElem?_eq_getElem (by have := HN.out; omega)⟩
          have HD := hide (show l.drop k = (ck, cp, ca) :: l.drop (k + 1) by
            obtain ⟨h1, h2⟩ := List.getElem?_eq_some_iff.1 hc
            rw [List.drop_eq_getElem_cons h1, h2])
          obtain ⟨b, off, rfl, hcell⟩ := (HR.out.below HB.out).at hc
          obtain ⟨c0, c1, c2⟩ := cert_cells hcell
          clear hc hcell
          simp only [] at c0 c1 c2
          have HB1 := hide (below_on HB.out (below_new wr (.cells #[.int .i64 ck, .int .i64 cp, .int .i64 ca] 92)))
          have HG1 := hide (blk_new wr (.cells #[.int .i64 ck, .int .i64 cp, .int .i64 ca] 92))
          have FO := hide (fun W => follows_any cur ck cp ca W)
          unfold certC at FO
          have FI := hide (folC_is cur (ck, cp, ca))
          have HO := hide (fun h => lastF_fol (cur := cur) (c := (ck, cp, ca)) (r := l.drop (k + 1)) h)
          have HE := hide (fun h => lastF_not (cur := cur) (c := (ck, cp, ca)) (r := l.drop (k + 1)) h)
          simp only [] at HO HE FO
          generalize folC cur (ck, cp, ca) = fc at *
          go_wp2_with (fail)
          refine (FO.out _).mono ?_
          rintro e w2 ⟨rfl, hb2⟩
          have HB2 := hide (below_on HB1.out hb2)
          have HG2 := hide (blk_below HG1.out hb2)
          clear hb2 HB1 HG1 c0 c1 c2 HB FO
          obtain ⟨r0, r1, r2⟩ := cells3 HG2.out
          rcases FI.out with rfl | rfl | rfl
          · have E := hide (HF.out.trans ((congrArg (lastF cur) HD.out).trans (HO.out rfl)))
            rw [errV_zero]
            go_wp2
            go_roundw
            case rel => exact ⟨k + 1, ck, by omega, by go_num, rfl, E.out, HB2.out⟩
            case measure => simp [intOf]; omega
          · have E := hide (HF.out.trans ((congrArg (lastF cur) HD.out).trans (HE.out (by decide))))
            rw [show errV 96 8 = .iface 96 (.int .i64 8) from rfl]
            go_wp2
            go_ret2
            exact ⟨by rw [E.out]; rfl, HB2.out⟩
          · have E := hide (HF.out.trans ((congrArg (lastF cur) HD.out).trans (HE.out (by decide))))
            rw [errV_one]
            go_wp2
            go_ret2
            exact ⟨by rw [E.out]; rfl, HB2.out⟩
        · have hlz : ¬ (k : Int) < n := by omega
          have E := hide (show lastF root l = (cur, 0) by rw [HF.out, List.drop_eq_nil_of_le (by have := HN.out; omega), lastF_nil])
          go_wp2
          go_ret2
          exact ⟨by rw [E.out]; rfl, HB.out⟩
end Go.Proofs.YtojdaifnljghkabGreatDoor.Cert
