/-
  Contracts of package bank's Digest and Same: what each returns for every bank and every mask, and that memory that was there stays as it was.
-/
import Derived.Test.YteebkpjnihffiaaDoorBank1
import Derived.Deep.WholeRow
import Derived.Deep.QuietTactic
namespace Go.Proofs.YteebkpjnihffiaaDoor.Bank
open Go.ChangeShapes Go.WideShapes Go.ChangeAt Go.RowKit
open Go.Proofs.YteebkpjnihffiaaDoor.M Go.Proofs.YteebkpjnihffiaaDoor.Measure
set_option linter.unusedVariables false

theorem info_bank : (Tryd.prog.info? 24).map (·.size) = some 8 := by kernel_rfl
/-- A bank out of its block. -/
theorem load_bank {w : World} {b : Nat} {c : Array Value} {fr : Nat × Nat} (h : w.heap[b]? = some (.cells c 24 fr)) (hs : c.size = 8) : (loadVar 24 ⟨b, 0, none⟩).run Tryd.prog w = .ok (.agg c) w :=
  run_loadVar_row w b _ _ c fr _ h Tryd.underlying24 rfl (by rw [info_bank, hs])

/-- The walk's step there: the whole bank out of the block that a slot points to. -/
theorem wpl_load {w : World} {ops : Array Oper} {rest : List Oper} {o : Oper} {a : Act} {Q : Exit → Act → World → Prop} (p : Nat) (hw : Region.wanted o (yielded ops a.tmps) = true) (ho : o.op = .load 24 (.tmp p)) (b : Nat)
    (hx : a.eval (.tmp p) = .pointer (some ⟨b, 0, none⟩)) (c : Array Value) (fr : Nat × Nat) (hg : w.heap[b]? = some (.cells c 24 fr)) (hs : c.size = 8) (h : wpList Tryd.prog ops Q rest (a.put o.dst (.agg c)) w) : wpList Tryd.prog ops Q (o :: rest) a w :=
  wpList_step fun K hK => by
    simp only [hw, if_true]
    exact wp_load_row _ (.tmp p) ho b hx _ c fr _ hg Tryd.underlying24 rfl (by rw [info_bank, hs]) (hK _ _ h)
theorem heap_below {w w' : World} {B b : Nat} {o : Obj} (h : w.heap[b]? = some o) (hb : Below B w w') (hlt : b < B) : w'.heap[b]? = some o := (hb.block b hlt).trans h

/-- Do two banks differ at a register? Both lie in blocks of the caller's. -/
theorem differs_any (xs ys is : List Int) (A B : Nat) (w : World) (hA : w.heap[A]? = some (.cells (bankC xs) 24)) (hB : w.heap[B]? = some (.cells (bankC ys) 24)) (hx : xs.length = 8) (hy : ys.length = 8)
    (his : ∀ i ∈ is, ∃ k : Nat, k < 8 ∧ i = k) :
    Any.Tells 49 #[.pointer (some ⟨A, 0, none⟩), .pointer (some ⟨B, 0, none⟩)] (fun i => xs.getD i.toNat 0 != ys.getD i.toNat 0) is w := by
  intro W i hi hb
  obtain ⟨k, hk, rfl⟩ := his i hi
  obtain ⟨x, hx'⟩ : ∃ x, xs[k]? = some x := ⟨_, List.getElem?_eq_getElem (by omega)⟩
  obtain ⟨y, hy'⟩ : ∃ y, ys[k]? = some y := ⟨_, List.getElem?_eq_getElem (by omega)⟩
  have h1 : W.cell? ⟨A, k, none⟩ = some (.int .i64 x) := bank_cell (heap_below hA hb (heap_lt hA)) hx'
  have h2 : W.cell? ⟨B, k, none⟩ = some (.int .i64 y) := bank_cell (heap_below hB hb (heap_lt hB)) hy'
  have e : (xs.getD (k : Int).toNat 0 != ys.getD (k : Int).toNat 0) = (x != y) := by simp [hx', hy']
  have HB := hide hb
  show Calls Tryd.prog 49 #[.int .i64 k, .pointer (some ⟨A, 0, none⟩), .pointer (some ⟨B, 0, none⟩)] W fun e w' => e = .returned (.bool (xs.getD (k : Int).toNat 0 != ys.getD (k : Int).toNat 0)) ∧ Below w.heap.size w w'
  rw [e]
  clear hx hy hx' hy' hA hB his hi e hb
  go_enter Tryd.func49, Tryd.ntmps49
  go_wp2
  go_region
  all_goals (try go_wp2)
  all_goals go_ret
  all_goals exact ⟨rfl, HB.out.drew⟩

set_option maxHeartbeats 2000000 in
theorem same_any (xs ys : List Int) (c d : Array Value) (m : Int) (w : World) (hc : c = bankC xs) (hd : d = bankC ys) (hx : xs.length = 8) (hy : ys.length = 8) :
    Calls Tryd.prog 36 #[.agg c, .agg d, .int .i64 m] w fun e w' => e = .returned (.tuple #[.bool (sameV xs ys m), errV 63 (sameE xs ys m)]) ∧ Below w.heap.size w w' := by
  have HC := hide hc
  have HD := hide hd
  have HX := hide hx
  have HY := hide hy
  have HSC := hide (show c.size = 8 by rw [hc, bankC_size, hx])
  have HSD := hide (show d.size = 8 by rw [hd, bankC_size, hy])
  have HG := hide (heap_alloc2_old w (.cells c 24) (.cells d 24))
  have HK := hide (heap_alloc2_new w (.cells c 24) (.cells d 24))
  have HB0 := hide (((Below.refl _ w).alloc (Nat.le_refl _) (.cells c 24)).alloc (by simp) (.cells d 24))
  have e8 : ∀ args w, (callFunc 49 args).run Tryd.prog w = .ok (.enter 49 args) w := enters_of Tryd.func49 (by kernel_rfl) rfl
  clear hc hd hx hy
  go_enter Tryd.func36, Tryd.ntmps36
  go_wp2_with ((with_reducible refine wpl_load 3 ?_ ?_ _ ?_ _ _ HG.out HSC.out ?_); rfl; rfl; rfl)
  refine (check_any xs c _ HC.out HX.out).mono ?_
  rintro e w1 ⟨rfl, hb1⟩
  have HB1 := hide (HB0.out.trans (hb1.mono (by simp; omega)))
  have HG1 := hide (heap_below HG.out hb1 (heap_lt HG.out))
  have HK1 := hide (heap_below HK.out hb1 (heap_lt HK.out))
  clear hb1 HG HK HB0
  cases ho : okAll xs with
  | false =>
    have E := hide (sameE_bad (xs := xs) (ys := ys) (m := m) (fun h => by rw [ho] at h; exact Bool.false_ne_true h.1))
    have E' := hide (sameV_bad (xs := xs) (ys := ys) (m := m) (fun h => by rw [ho] at h; exact Bool.false_ne_true h.1))
    rw [bankE_bad ho, errV_one]
    go_wp2
    go_ret2
    exact ⟨by rw [E.out, E'.out]; rfl, HB1.out⟩
  | true =>
    have HO := hide ho
    rw [bankE_ok ho, errV_zero]
    clear ho
    go_wp2_with ((with_reducible refine wpl_load 4 ?_ ?_ _ ?_ _ _ HK1.out HSD.out ?_); rfl; rfl; rfl)
    refine (check_any ys d _ HD.out HY.out).mono ?_
    rintro e w2 ⟨rfl, hb2⟩
    have HB2 := hide (HB1.out.trans (hb2.mono HB1.out.size))
    have HG2 := hide (heap_below HG1.out hb2 (heap_lt HG1.out))
    have HK2 := hide (heap_below HK1.out hb2 (heap_lt HK1.out))
    clear hb2 HG1 HK1 HB1
    cases ho' : okAll ys with
    | false =>
      have E := hide (sameE_bad (xs := xs) (ys := ys) (m := m) (fun h => by rw [ho'] at h; exact Bool.false_ne_true h.2.1))
      have E' := hide (sameV_bad (xs := xs) (ys := ys) (m := m) (fun h => by rw [ho'] at h; exact Bool.false_ne_true h.2.1))
      rw [bankE_bad ho', errV_one]
      go_wp2
      go_ret2
      exact ⟨by rw [E.out, E'.out]; rfl, HB2.out⟩
    | true =>
      have HO' := hide ho'
      rw [bankE_ok ho', errV_zero]
      clear ho'
      go_wp2_with (fail)
      refine (isMask_any m _).mono ?_
      rintro e w3 ⟨rfl, rfl⟩
      cases hm : isMask m with
      | false =>
        have E := hide (sameE_bad (xs := xs) (ys := ys) (m := m) (fun h => by rw [hm] at h; exact Bool.false_ne_true h.2.2))
        have E' := hide (sameV_bad (xs := xs) (ys := ys) (m := m) (fun h => by rw [hm] at h; exact Bool.false_ne_true h.2.2))
        go_wp2
        go_ret2
        exact ⟨by rw [E.out, E'.out]; rfl, HB2.out⟩
      | true =>
        have E := hide (sameE_ok HO.out HO'.out hm)
        have E' := hide (sameV_ok HO.out HO'.out hm)
        have hm01 := isMask_iff.1 hm
        obtain ⟨hm0, hm1⟩ := hm01
        go_wp2_with (fail)
        refine (asked_any m _ hm0 hm1).mono ?_
        rintro e w4 ⟨v, rfl, hown, hb4⟩
        obtain ⟨a, cap, rfl, _, hrow⟩ := hown.row
        have HROW := hide hrow
        have HB4 := hide (HB2.out.trans (hb4.mono HB2.out.size))
        have HG4 := hide (heap_below HG2.out hb4 (heap_lt HG2.out))
        have HK4 := hide (heap_below HK2.out hb4 (heap_lt HK2.out))
        clear hrow hown hb4
        go_wp2_with (fail)
        refine (Any.contains_any a (askedL m 8) _ cap _ _ _ _ rfl (by have := askedL_len m 8; omega) HROW.out e8 (differs_any xs ys (askedL m 8) w.heap.size (w.heap.size + 1) _ (by rw [← HC.out]; exact HG4.out) (by rw [← HD.out]; exact HK4.out) HX.out HY.out (fun i hi => by obtain ⟨k, hk, e, _⟩ := askedL_mem hi; exact ⟨k, hk, e⟩))).mono ?_
        rintro e w5 ⟨rfl, hb5⟩
        have HB5 := hide (HB4.out.trans (hb5.mono HB4.out.size))
        clear hb5
        go_wp2
        go_ret2
        exact ⟨by rw [E.out, E'.out]; rfl, HB5.out⟩
end Go.Proofs.YteebkpjnihffiaaDoor.Bank
