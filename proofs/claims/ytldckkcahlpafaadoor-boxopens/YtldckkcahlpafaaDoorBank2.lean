/-
  Contracts of package bank's Digest and Same: what each returns for every bank and every mask, and that memory that was there stays as it was.
-/
import Derived.Test.YtldckkcahlpafaaDoorBank1
import Derived.Deep.WholeRow
import Derived.Deep.QuietTactic
namespace Go.Proofs.YtldckkcahlpafaaDoor.Bank
open Go.ChangeShapes Go.WideShapes Go.ChangeAt Go.RowKit
open Go.Proofs.YtldckkcahlpafaaDoor.M Go.Proofs.YtldckkcahlpafaaDoor.Measure
set_option linter.unusedVariables false

theorem info_bank : (Tryd.prog.info? 23).map (·.size) = some 8 := by kernel_rfl
/-- A bank out of its block. -/
theorem load_bank {w : World} {b : Nat} {c : Array Value} {fr : Nat × Nat} (h : w.heap[b]? = some (.cells c 23 fr)) (hs : c.size = 8) : (loadVar 23 ⟨b, 0, none⟩).run Tryd.prog w = .ok (.agg c) w :=
  run_loadVar_row w b _ _ c fr _ h Tryd.underlying23 rfl (by rw [info_bank, hs])

/-- The walk's step there: the whole bank out of the block that a slot points to. -/
theorem wpl_load {w : World} {ops : Array Oper} {rest : List Oper} {o : Oper} {a : Act} {Q : Exit → Act → World → Prop} (p : Nat) (hw : Region.wanted o (yielded ops a.tmps) = true) (ho : o.op = .load 23 (.tmp p)) (b : Nat)
    (hx : a.eval (.tmp p) = .pointer (some ⟨b, 0, none⟩)) (c : Array Value) (fr : Nat × Nat) (hg : w.heap[b]? = some (.cells c 23 fr)) (hs : c.size = 8) (h : wpList Tryd.prog ops Q rest (a.put o.dst (.agg c)) w) : wpList Tryd.prog ops Q (o :: rest) a w :=
  wpList_step fun K hK => by
    simp only [hw, if_true]
    exact wp_load_row _ (.tmp p) ho b hx _ c fr _ hg Tryd.underlying23 rfl (by rw [info_bank, hs]) (hK _ _ h)
theorem heap_below {w w' : World} {B b : Nat} {o : Obj} (h : w.heap[b]? = some o) (hb : Below B w w') (hlt : b < B) : w'.heap[b]? = some o := (hb.block b hlt).trans h

set_option maxHeartbeats 2000000 in
theorem digest_any (xs : List Int) (c : Array Value) (m : Int) (w : World) (hc : c = bankC xs) (hl : xs.length = 8) :
    Calls Tryd.prog 14 #[.agg c, .int .i64 m] w fun e w' => e = .returned (.tuple #[.int .i64 (digV xs m), errV 47 (digE xs m)]) ∧ Below w.heap.size w w' := by
  have HC := hide hc
  have HL := hide hl
  have HS := hide (show c.size = 8 by rw [hc, bankC_size, hl])
  have HG := hide (heap_alloc_new w (.cells c 23))
  clear hc hl
  go_enter Tryd.func14, Tryd.ntmps14
  go_wp2_with ((with_reducible refine wpl_load 2 ?_ ?_ _ ?_ _ _ HG.out HS.out ?_); rfl; rfl; rfl)
  refine (check_any xs c _ HC.out HL.out).mono ?_
  rintro e w1 ⟨rfl, hb1⟩
  have HB1 := hide (((Below.refl _ w).alloc (Nat.le_refl _) (.cells c 23)).trans (hb1.mono (by simp)))
  have HG1 := hide (heap_below HG.out hb1 (by simp))
  clear hb1 HG
  cases ho : okAll xs with
  | false =>
    have E := hide (digE_bad (xs := xs) (m := m) (fun h => by rw [ho] at h; exact Bool.false_ne_true h.1))
    have E' := hide (digV_bad (xs := xs) (m := m) (fun h => by rw [ho] at h; exact Bool.false_ne_true h.1))
    rw [bankE_bad ho, errV_one]
    go_wp2
    go_ret2
    exact ⟨by rw [E.out, E'.out]; rfl, HB1.out⟩
  | true =>
    have HO := hide ho
    rw [bankE_ok ho, errV_zero]
    clear ho
    go_wp2_with (fail)
    refine (isMask_any m _).mono ?_
    rintro e w2 ⟨rfl, rfl⟩
    cases hm : isMask m with
    | false =>
      have E := hide (digE_bad (xs := xs) (m := m) (fun h => by rw [hm] at h; exact Bool.false_ne_true h.2))
      have E' := hide (digV_bad (xs := xs) (m := m) (fun h => by rw [hm] at h; exact Bool.false_ne_true h.2))
      go_wp2
      go_ret2
      exact ⟨by rw [E.out, E'.out]; rfl, HB1.out⟩
    | true =>
      have E := hide (digE_ok HO.out hm)
      have E' := hide (digV_ok HO.out hm)
      have hm01 := isMask_iff.1 hm
      obtain ⟨hm0, hm1⟩ := hm01
      go_wp2_with (fail)
      refine (asked_any m _ hm0 hm1).mono ?_
      rintro e w3 ⟨v, rfl, hown, hb3⟩
      obtain ⟨a, cap, rfl, _, hrow⟩ := hown.row
      have HROW := hide hrow
      have HB3 := hide (HB1.out.trans (hb3.mono HB1.out.size))
      have HG3 := hide (heap_below HG1.out hb3 (heap_lt HG1.out))
      have HLEN := hide (askedL_len m 8)
      clear hrow hown hb3
      go_wp2
      go_loopw [7, 9, 22] (fun v _ i wr => ∃ k : Nat, k ≤ (askedL m 8).length ∧ i = .int .i64 k ∧ Hid (Own wr w3.heap.size 3 v (pick xs ((askedL m 8).take k))) ∧ Hid (Below w3.heap.size w3 wr)) (fun _ _ i _ => (askedL m 8).length - (intOf i).toNat)
      case atStart => exact ⟨0, by omega, rfl, Own.nil _ _ _, Below.refl _ _⟩
      case round =>
        obtain ⟨k, hk, rfl, HOW, HBR⟩ := hrel
        have hsz := HBR.out.size
        by_cases hlt : k < (askedL m 8).length
        · obtain ⟨i, hi⟩ : ∃ i, (askedL m 8)[k]? = some i := ⟨_, List.getElem?_eq_getElem hlt⟩
          obtain ⟨j, hj, rfl, _⟩ := askedL_mem (List.mem_of_getElem? hi)
          obtain ⟨y, hy⟩ : ∃ y, xs[j]? = some y := ⟨_, List.getElem?_eq_getElem (by have := HL.out; omega)⟩
          have HX := hide hi
          have HY := hide hy
          have HGR := hide (heap_below HG3.out HBR.out (heap_lt HG3.out))
          have hcb : wr.cell? ⟨w.heap.size, j, none⟩ = some (.int .i64 y) := bank_cell (xs := xs) (t := 23) (fr := (0, 0)) (by rw [← HC.out]; exact HGR.out) HY.out
          have hrow : ∃ b off, a = some ⟨b, off, none⟩ ∧ wr.cell? ⟨b, off + k, none⟩ = some (.int .i64 j) := by
            rcases HROW.out.below HBR.out with h | ⟨b, off, h1, h2⟩
            · have := HX.out; rw [h] at this; simp at this
            · exact ⟨b, off, h1, h2 k j HX.out⟩
          obtain ⟨b, off, rfl, hc⟩ := hrow
          clear hi hy
          have hlen : (askedL m 8).length ≤ 8 := HLEN.out
          go_wp2_with (at_builtin; refine wpList_app rfl _ _ 50 rfl w3.heap.size 3 info_int Tryd.underlying50 _ (pick xs ((askedL m 8).take k)) rfl (HOW.out.alloc _) (some ⟨wr.heap.size, 0, none⟩) 1 1 [y] rfl rfl (fun h => by cases h) (Row.one _ _ _ (by simp)) (by rw [pick_len]; simp; omega) (by simp; omega) ?_; intro v' w5 ho hgr)
          go_roundw
          case rel => exact ⟨k + 1, by omega, by go_num, by rw [pick_take HX.out (by simpa using HY.out)]; exact ho, (HBR.out.alloc hsz _).grown hgr (by simp; omega) (fun k hk => HOW.out.block k hk)⟩
          case measure => simp [intOf]; omega
        · have htk : (askedL m 8).take k = askedL m 8 := List.take_of_length_le (by omega)
          obtain ⟨a7, cap7, rfl, _, hrow7⟩ := HOW.out.row
          rw [htk] at hrow7 ⊢
          have HR7 := hide hrow7
          have HB7 := hide (HB3.out.trans (HBR.out.mono HB3.out.size))
          clear hrow7 htk
          go_wp2_with (fail)
          refine (all_ok _ (pick xs (askedL m 8)) _ _ _ rfl (by rw [pick_len]; have := HLEN.out; omega) HR7.out (pick_ok HO.out HL.out m)).mono ?_
          rintro e w8 ⟨rfl, rfl⟩
          go_wp2
          go_ret2
          exact ⟨by rw [E.out, E'.out]; rfl, HB7.out⟩

/-- Do two banks differ at a register? Both lie in blocks of the caller's. -/
theorem differs_any (xs ys is : List Int) (A B : Nat) (w : World) (hA : w.heap[A]? = some (.cells (bankC xs) 23)) (hB : w.heap[B]? = some (.cells (bankC ys) 23)) (hx : xs.length = 8) (hy : ys.length = 8)
    (his : ∀ i ∈ is, ∃ k : Nat, k < 8 ∧ i = k) :
    Any.Tells 29 #[.pointer (some ⟨A, 0, none⟩), .pointer (some ⟨B, 0, none⟩)] (fun i => xs.getD i.toNat 0 != ys.getD i.toNat 0) is w := by
  intro W i hi hb
  obtain ⟨k, hk, rfl⟩ := his i hi
  obtain ⟨x, hx'⟩ : ∃ x, xs[k]? = some x := ⟨_, List.getElem?_eq_getElem (by omega)⟩
  obtain ⟨y, hy'⟩ : ∃ y, ys[k]? = some y := ⟨_, List.getElem?_eq_getElem (by omega)⟩
  have h1 : W.cell? ⟨A, k, none⟩ = some (.int .i64 x) := bank_cell (heap_below hA hb (heap_lt hA)) hx'
  have h2 : W.cell? ⟨B, k, none⟩ = some (.int .i64 y) := bank_cell (heap_below hB hb (heap_lt hB)) hy'
  have e : (xs.getD (k : Int).toNat 0 != ys.getD (k : Int).toNat 0) = (x != y) := by simp [hx', hy']
  have HB := hide hb
  show Calls Tryd.prog 29 #[.int .i64 k, .pointer (some ⟨A, 0, none⟩), .pointer (some ⟨B, 0, none⟩)] W fun e w' => e = .returned (.bool (xs.getD (k : Int).toNat 0 != ys.getD (k : Int).toNat 0)) ∧ Below w.heap.size w w'
  rw [e]
  clear hx hy hx' hy' hA hB his hi e hb
  go_enter Tryd.func29, Tryd.ntmps29
  go_wp2
  go_region
  all_goals (try go_wp2)
  all_goals go_ret
  all_goals exact ⟨rfl, HB.out.drew⟩

set_option maxHeartbeats 2000000 in
theorem same_any (xs ys : List Int) (c d : Array Value) (m : Int) (w : World) (hc : c = bankC xs) (hd : d = bankC ys) (hx : xs.length = 8) (hy : ys.length = 8) :
    Calls Tryd.prog 16 #[.agg c, .agg d, .int .i64 m] w fun e w' => e = .returned (.tuple #[.bool (sameV xs ys m), errV 47 (sameE xs ys m)]) ∧ Below w.heap.size w w' := by
  have HC := hide hc
  have HD := hide hd
  have HX := hide hx
  have HY := hide hy
  have HSC := hide (show c.size = 8 by rw [hc, bankC_size, hx])
  have HSD := hide (show d.size = 8 by rw [hd, bankC_size, hy])
  have HG := hide (heap_alloc2_old w (.cells c 23) (.cells d 23))
  have HK := hide (heap_alloc2_new w (.cells c 23) (.cells d 23))
  have HB0 := hide (((Below.refl _ w).alloc (Nat.le_refl _) (.cells c 23)).alloc (by simp) (.cells d 23))
  have e8 : ∀ args w, (callFunc 29 args).run Tryd.prog w = .ok (.enter 29 args) w := enters_of Tryd.func29 (by kernel_rfl) rfl
  clear hc hd hx hy
  go_enter Tryd.func16, Tryd.ntmps16
  go_wp2_with ((with_reducible refine wpl_load 3 ?_ ?_ _ ?_ _ _ HG.out HSC.out ?_); rfl; rfl; rfl)
  refine (check_any xs c _ HC.out HX.out).mono ?_
  rintro e w1 ⟨rfl, hb1⟩
  have HB1 := hide (HB0.out.trans (hb1.mono (by simp; omega)))
  have HG1 := hide (heap_below HG.out hb1 (heap_lt HG.out))
  have HK1 := hide (heap_below HK.out hb1 (heap_lt HK.out))
  clear hb1 HG HK HB0
  cases ho : okAll xs with
  | false =>
    have E := hide (sameE_bad (xs := xs) (ys := ys) (m := m) (fun h => by rw [ho] at h; exact Bool.false_ne_true h.1))
    have E' := hide (sameV_bad (xs := xs) (ys := ys) (m := m) (fun h => by rw [ho] at h; exact Bool.false_ne_true h.1))
    rw [bankE_bad ho, errV_one]
    go_wp2
    go_ret2
    exact ⟨by rw [E.out, E'.out]; rfl, HB1.out⟩
  | true =>
    have HO := hide ho
    rw [bankE_ok ho, errV_zero]
    clear ho
    go_wp2_with ((with_reducible refine wpl_load 4 ?_ ?_ _ ?_ _ _ HK1.out HSD.out ?_); rfl; rfl; rfl)
    refine (check_any ys d _ HD.out HY.out).mono ?_
    rintro e w2 ⟨rfl, hb2⟩
    have HB2 := hide (HB1.out.trans (hb2.mono HB1.out.size))
    have HG2 := hide (heap_below HG1.out hb2 (heap_lt HG1.out))
    have HK2 := hide (heap_below HK1.out hb2 (heap_lt HK1.out))
    clear hb2 HG1 HK1 HB1
    cases ho' : okAll ys with
    | false =>
      have E := hide (sameE_bad (xs := xs) (ys := ys) (m := m) (fun h => by rw [ho'] at h; exact Bool.false_ne_true h.2.1))
      have E' := hide (sameV_bad (xs := xs) (ys := ys) (m := m) (fun h => by rw [ho'] at h; exact Bool.false_ne_true h.2.1))
      rw [bankE_bad ho', errV_one]
      go_wp2
      go_ret2
      exact ⟨by rw [E.out, E'.out]; rfl, HB2.out⟩
    | true =>
      have HO' := hide ho'
      rw [bankE_ok ho', errV_zero]
      clear ho'
      go_wp2_with (fail)
      refine (isMask_any m _).mono ?_
      rintro e w3 ⟨rfl, rfl⟩
      cases hm : isMask m with
      | false =>
        have E := hide (sameE_bad (xs := xs) (ys := ys) (m := m) (fun h => by rw [hm] at h; exact Bool.false_ne_true h.2.2))
        have E' := hide (sameV_bad (xs := xs) (ys := ys) (m := m) (fun h => by rw [hm] at h; exact Bool.false_ne_true h.2.2))
        go_wp2
        go_ret2
        exact ⟨by rw [E.out, E'.out]; rfl, HB2.out⟩
      | true =>
        have E := hide (sameE_ok HO.out HO'.out hm)
        have E' := hide (sameV_ok HO.out HO'.out hm)
        have hm01 := isMask_iff.1 hm
        obtain ⟨hm0, hm1⟩ := hm01
        go_wp2_with (fail)
        refine (asked_any m _ hm0 hm1).mono ?_
        rintro e w4 ⟨v, rfl, hown, hb4⟩
        obtain ⟨a, cap, rfl, _, hrow⟩ := hown.row
        have HROW := hide hrow
        have HB4 := hide (HB2.out.trans (hb4.mono HB2.out.size))
        have HG4 := hide (heap_below HG2.out hb4 (heap_lt HG2.out))
        have HK4 := hide (heap_below HK2.out hb4 (heap_lt HK2.out))
        clear hrow hown hb4
        go_wp2_with (fail)
        refine (Any.contains_any a (askedL m 8) _ cap _ _ _ _ rfl (by have := askedL_len m 8; omega) HROW.out e8 (differs_any xs ys (askedL m 8) w.heap.size (w.heap.size + 1) _ (by rw [← HC.out]; exact HG4.out) (by rw [← HD.out]; exact HK4.out) HX.out HY.out (fun i hi => by obtain ⟨k, hk, e, _⟩ := askedL_mem hi; exact ⟨k, hk, e⟩))).mono ?_
        rintro e w5 ⟨rfl, hb5⟩
        have HB5 := hide (HB4.out.trans (hb5.mono HB4.out.size))
        clear hb5
        go_wp2
        go_ret2
        exact ⟨by rw [E.out, E'.out]; rfl, HB5.out⟩
end Go.Proofs.YtldckkcahlpafaaDoor.Bank
