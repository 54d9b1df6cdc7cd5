/-
  The walk of stairlaw2.EventOrder: it returns true, and memory that was there stays as it was.
-/
import Derived.Test.YteebkpjnihffiaaEventLaw
import Derived.Test.YteebkpjnihffiaaEventOrderMath
import Derived.Test.YteebkpjnihffiaaOnly
import Derived.Test.YteebkpjnihffiaaBank4
import Derived.Deep.QuietTactic
import Derived.BigQuiet
namespace Go.Proofs.Yteebkpjnihffiaa.EventOrder
open Go.ChangeShapes Go.WideShapes Go.ChangeAt Go.RowKit
open Go.Proofs.Yteebkpjnihffiaa.M Go.Proofs.Yteebkpjnihffiaa.Event Go.Proofs.Yteebkpjnihffiaa.Bank
set_option linter.unusedVariables false

theorem evV_one (e : Int × Int) : ∀ u ∈ evV e, u.oneCell' = true := by
  intro u hu
  simp [evV] at hu
  rcases hu with rfl | rfl <;> rfl
theorem info_ev : (Try.prog.info? 24).map (fun i => (i.zero, i.size, i.bytes)) = some (some (.agg #[.int .i64 0, .int .i64 0]), 2, 16) := by kernel_rfl
theorem ev_new (W : World) (x y : Int) (t : TypeId) (b : Nat) (hb : W.heap.size = b) : ∀ (j : Nat) (u : Value), (evV (x, y))[j]? = some u → (W.alloc (.cells #[.int .i64 x, .int .i64 y] t)).cell? ⟨b, j, none⟩ = some u := by
  subst hb
  intro j u hu
  rw [cell_of_row _ _ _ _ t _ (blk_new W _)]
  simpa [evV] using hu
theorem two_row (w : World) (T : TypeId) : RRow 2 evV (w.alloc (.cells #[.int .i64 1, .int .i64 5, .int .i64 1, .int .i64 5] T)) (some ⟨w.heap.size, 0, none⟩) [(1, 5), (1, 5)] := by
  refine Or.inr ⟨w.heap.size, 0, rfl, fun k x hx j v hv => ?_⟩
  rw [cell_of_row _ _ _ _ _ _ (blk_new w (.cells #[.int .i64 1, .int .i64 5, .int .i64 1, .int .i64 5] T))]
  match k, hx with
  | 0, hx =>
    simp at hx
    subst hx
    match j, hv with
    | 0, hv => simpa [evV] using hv
    | 1, hv => simpa [evV] using hv
    | j + 2, hv => simp [evV] at hv
  | 1, hx =>
    simp at hx
    subst hx
    match j, hv with
    | 0, hv => simpa [evV] using hv
    | 1, hv => simpa [evV] using hv
    | j + 2, hv => simp [evV] at hv
  | k + 2, hx => simp at hx
theorem ev_cells {w : World} {b o : Nat} {e : Int × Int} (h : ∀ (j : Nat) (v : Value), (evV e)[j]? = some v → w.cell? ⟨b, o + j, none⟩ = some v) : w.cell? ⟨b, o, none⟩ = some (.int .i64 e.1) ∧ w.cell? ⟨b, o + 1, none⟩ = some (.int .i64 e.2) := ⟨h 0 _ rfl, h 1 _ rfl⟩
theorem flat0 {e : Int × Int} {r : Int} : ∀ {cs : List (Int × Int)} {k : Nat}, cs[k]? = some e → (cs.flatMap evV).set (k * 2) (.int .i64 r) = (cs.set k (r, e.2)).flatMap evV
  | [], k, h => by simp at h
  | c :: t, 0, h => by
    simp at h
    subst h
    simp [evV]
  | c :: t, k + 1, h => by
    have ih := flat0 (e := e) (r := r) (cs := t) (k := k) (by simpa using h)
    rw [List.set_cons_succ, List.flatMap_cons, List.flatMap_cons, ← ih, show (k + 1) * 2 = (k * 2) + 2 by omega]
    rfl
theorem flat1 {e : Int × Int} {m : Int} : ∀ {cs : List (Int × Int)} {k : Nat}, cs[k]? = some e → (cs.flatMap evV).set (k * 2 + 1) (.int .i64 m) = (cs.set k (e.1, m)).flatMap evV
  | [], k, h => by simp at h
  | c :: t, 0, h => by
    simp at h
    subst h
    simp [evV]
  | c :: t, k + 1, h => by
    have ih := flat1 (e := e) (m := m) (cs := t) (k := k) (by simpa using h)
    rw [List.set_cons_succ, List.flatMap_cons, List.flatMap_cons, ← ih, show (k + 1) * 2 + 1 = (k * 2 + 1) + 2 by omega]
    rfl
section
variable {w : World} {B : Nat} {T : TypeId} {g cap : Nat} {cs : List (Int × Int)} {k : Nat} {e : Int × Int} {r m : Int}
theorem own_facts (h : OwnR 2 evV w B T (.slice (some ⟨g, 0, none⟩) cs.length cap) cs) (hk : cs[k]? = some e) :
    w.cell? ⟨g, k * 2, none⟩ = some (.int .i64 e.1) ∧ w.cell? ⟨g, k * 2 + 1, none⟩ = some (.int .i64 e.2) ∧ w.frozen? ⟨g, k * 2, none⟩ = false ∧ w.frozen? ⟨g, k * 2 + 1, none⟩ = false := by
  obtain ⟨a, cap', hv, _, hr⟩ := h.row evV_len
  cases hv
  obtain ⟨b, off, e', hc⟩ := hr.at hk
  cases e'
  obtain ⟨c0, c1⟩ := ev_cells hc
  simp only [Nat.zero_add] at c0 c1
  rcases h.2 with ⟨h3, _⟩ | ⟨g', cap'', cur, h3, h4, h5, _⟩
  · cases h3
  · cases h3
    exact ⟨c0, c1, by simp [World.frozen?, h5], by simp [World.frozen?, h5]⟩
theorem own0 (h : OwnR 2 evV w B T (.slice (some ⟨g, 0, none⟩) cs.length cap) cs) (hk : cs[k]? = some e) : OwnR 2 evV (w.setCell ⟨g, k * 2, none⟩ (.int .i64 r)) B T (.slice (some ⟨g, 0, none⟩) cs.length cap) (cs.set k (r, e.2)) := by
  obtain ⟨h1, h2⟩ := h
  rcases h2 with ⟨h3, _⟩ | ⟨g', cap'', cur, h3, h4, h5, h6, h7, h8, h9⟩
  · cases h3
  · cases h3
    rw [setCell_eq_setRow w g _ _ _ _ _ h5]
    refine ⟨by rw [← flat0 hk, List.length_set, List.length_set]; exact h1, Or.inr ⟨g, cap, cur.setIfInBounds (k * 2) (.int .i64 r), by rw [List.length_set], h4, setRow_heap _ _ _ _ _ _ h5, by rw [List.length_set]; exact h6, h7, by simpa using h8, ?_⟩⟩
    rw [List.length_set, ← flat0 hk, ← h9, Array.toList_setIfInBounds, List.take_set]
theorem own1 (h : OwnR 2 evV w B T (.slice (some ⟨g, 0, none⟩) cs.length cap) cs) (hk : cs[k]? = some e) : OwnR 2 evV (w.setCell ⟨g, k * 2 + 1, none⟩ (.int .i64 m)) B T (.slice (some ⟨g, 0, none⟩) cs.length cap) (cs.set k (e.1, m)) := by
  obtain ⟨h1, h2⟩ := h
  rcases h2 with ⟨h3, _⟩ | ⟨g', cap'', cur, h3, h4, h5, h6, h7, h8, h9⟩
  · cases h3
  · cases h3
    rw [setCell_eq_setRow w g _ _ _ _ _ h5]
    refine ⟨by rw [← flat1 hk, List.length_set, List.length_set]; exact h1, Or.inr ⟨g, cap, cur.setIfInBounds (k * 2 + 1) (.int .i64 m), by rw [List.length_set], h4, setRow_heap _ _ _ _ _ _ h5, by rw [List.length_set]; exact h6, h7, by simpa using h8, ?_⟩⟩
    rw [List.length_set, ← flat1 hk, ← h9, Array.toList_setIfInBounds, List.take_set]
/-- One record of a row of the call's own, written. -/
theorem own_put (h : OwnR 2 evV w B T (.slice (some ⟨g, 0, none⟩) cs.length cap) cs) (hk : cs[k]? = some e) :
    OwnR 2 evV ((w.setCell ⟨g, k * 2, none⟩ (.int .i64 r)).setCell ⟨g, k * 2 + 1, none⟩ (.int .i64 m)) B T (.slice (some ⟨g, 0, none⟩) cs.length cap) (cs.set k (r, m)) := by
  have hl : k < cs.length := (List.getElem?_eq_some_iff.1 hk).1
  have h1 := own0 (r := r) h hk
  have h2 := own1 (m := m) (k := k) (e := (r, e.2)) (cs := cs.set k (r, e.2)) (cap := cap) (by rw [List.length_set]; exact h1) (by rw [List.getElem?_set_self hl])
  rw [List.length_set, List.set_set] at h2
  exact h2
end
theorem swap_eq : ∀ {l : List (Int × Int)} {k : Nat} {a b : Int × Int}, l[k]? = some a → l[k + 1]? = some b → ∃ p r, l = p ++ a :: b :: r ∧ (l.set k b).set (k + 1) a = p ++ b :: a :: r
  | [], k, a, b, ha, _ => by simp at ha
  | c :: l, 0, a, b, ha, hb => by
    simp at ha hb
    subst ha
    match l, hb with
    | d :: t, hb =>
      simp at hb
      subst hb
      exact ⟨[], t, rfl, rfl⟩
  | c :: l, k + 1, a, b, ha, hb => by
    obtain ⟨p, r, h1, h2⟩ := swap_eq (l := l) (k := k) (by simpa using ha) (by simpa using hb)
    exact ⟨c :: p, r, by rw [h1]; rfl, by rw [List.set_cons_succ, List.set_cons_succ, h2]; rfl⟩
/-- What was carried: an event and a bank in their blocks, and all that was there. -/
structure Kept (w0 : World) (x y : Int) (B : Nat) (d : Array Value) (W : World) : Prop where
  lo : Below w0.heap.size w0 W
  m : W.heap[w0.heap.size]? = some (.cells #[.int .i64 x, .int .i64 y] 24)
  b : W.heap[B]? = some (.cells d 26)
theorem Kept.below {w0 W W' : World} {x y : Int} {B : Nat} {d : Array Value} (h : Kept w0 x y B d W) (hb : Below W.heap.size W W') : Kept w0 x y B d W' := ⟨below_on h.lo hb, blk_below h.m hb, blk_below h.b hb⟩
theorem Kept.only {w0 W W' : World} {x y : Int} {B : Nat} {d : Array Value} (h : Kept w0 x y B d W) {S : Nat → Prop} (ho : Only S W W') (hS : ∀ k, S k → w0.heap.size < k ∧ B < k) : Kept w0 x y B d W' :=
  ⟨h.lo.trans (ho.below h.lo.size (fun k hk => by have := hS k hk; omega)), ho.heap h.m (fun hs => by have := hS _ hs; omega), ho.heap h.b (fun hs => by have := hS _ hs; omega)⟩
theorem pair_cells {w : World} {b : Nat} {x y : Value} {t : TypeId} {fr : Nat × Nat} (h : w.heap[b]? = some (.cells #[x, y] t fr)) : w.cell? ⟨b, 0, none⟩ = some x ∧ w.cell? ⟨b, 1, none⟩ = some y := by
  refine ⟨?_, ?_⟩ <;> rw [cell_of_row w b _ _ t fr h] <;> rfl
theorem eight_list {r : List Int} (h : r.length = 8) : ∃ a0 a1 a2 a3 a4 a5 a6 a7, r = [a0, a1, a2, a3, a4, a5, a6, a7] := by
  match r, h with
  | [a0, a1, a2, a3, a4, a5, a6, a7], _ => exact ⟨a0, a1, a2, a3, a4, a5, a6, a7, rfl⟩
theorem bank8 {w : World} {b : Nat} {a0 a1 a2 a3 a4 a5 a6 a7 : Int} {t : TypeId} {fr : Nat × Nat} (h : w.heap[b]? = some (.cells (bankC [a0, a1, a2, a3, a4, a5, a6, a7]) t fr)) :
    w.cell? ⟨b, 0, none⟩ = some (.int .i64 a0) ∧ w.cell? ⟨b, 1, none⟩ = some (.int .i64 a1) ∧ w.cell? ⟨b, 2, none⟩ = some (.int .i64 a2) ∧ w.cell? ⟨b, 3, none⟩ = some (.int .i64 a3) ∧ w.cell? ⟨b, 4, none⟩ = some (.int .i64 a4) ∧ w.cell? ⟨b, 5, none⟩ = some (.int .i64 a5) ∧ w.cell? ⟨b, 6, none⟩ = some (.int .i64 a6) ∧ w.cell? ⟨b, 7, none⟩ = some (.int .i64 a7) := by
  refine ⟨?_, ?_, ?_, ?_, ?_, ?_, ?_, ?_⟩ <;> rw [cell_of_row w b _ _ t fr h] <;> rfl
theorem quiet_below (w : World) : ∀ n, Below w.heap.size w (w.drewN n)
  | 0 => Below.refl _ _
  | n + 1 => Below.drew (quiet_below w n)
theorem errV_no {T : TypeId} {k : Int} (h : ¬ k = 0) : errV T k = .iface T (.int .i64 k) := by unfold errV; rw [if_neg h]
theorem rep_fact : repP [(1, 5), (1, 5)] = [0, 47520, 0, 0, 0, 0, 0, 0] := by decide +kernel
theorem ev_fact : evE [(1, 5), (1, 5)] = 0 := by decide +kernel

set_option maxRecDepth 20000 in
set_option maxHeartbeats 1000000 in
theorem walk (RL : ReplayLaw) (a : Option Addr) (l : List (Int × Int)) (n cap : Nat) (i x y : Int) (w : World) (hn : n = l.length) (hm : n ≤ maxLen) (hc : a = none → cap = 0) (hr : RRow 2 evV w a l) :
    Calls Try.prog 3 #[.slice a n cap, .int .i64 i, .agg #[.int .i64 x, .int .i64 y]] w fun e w' => e = .returned (.bool true) ∧ Below w.heap.size w w' := by
  have HRL := hide RL
  have HR := hide hr
  have HN := hide hn
  have HC := hide hc
  have HB0 := hide (below_new w (.cells #[.int .i64 x, .int .i64 y] 24))
  have HG0 := hide (blk_new w (.cells #[.int .i64 x, .int .i64 y] 24))
  have R0 := hide (RL (some ⟨(w.alloc (.cells #[.int .i64 x, .int .i64 y] 24)).heap.size, 0, none⟩) [(1, 5), (1, 5)] 2 2 _ rfl (by unfold maxLen; omega) (two_row (w.alloc (.cells #[.int .i64 x, .int .i64 y] 24)) 24))
  have RP := hide (fun (W : World) (h : Below w.heap.size w W) => RL a l n cap W hn hm (hr.below h))
  rw [rep_fact, ev_fact, errV_zero, World.size_alloc] at R0
  have e8 : bankC [0, 47520, 0, 0, 0, 0, 0, 0] = #[.int .i64 0, .int .i64 47520, .int .i64 0, .int .i64 0, .int .i64 0, .int .i64 0, .int .i64 0, .int .i64 0] := rfl
  rw [e8] at R0
  have hm' : n ≤ 9223372036854775807 := by unfold maxLen at hm; omega
  clear RL hn hm hr hc e8
  go_enter Try.func3, Try.ntmps3
  go_wp2_with (fail)
  refine R0.out.mono ?_
  rintro e w1 ⟨rfl, hb1⟩
  have HB1 := hide (below_on (below_on (below_on HB0.out (below_new _ _)) hb1) (below_new w1 (.cells #[.int .i64 0, .int .i64 47520, .int .i64 0, .int .i64 0, .int .i64 0, .int .i64 0, .int .i64 0, .int .i64 0] 26)))
  have HG1 := hide (blk_below (blk_below (blk_keep HG0.out _) hb1) (below_new w1 (.cells #[.int .i64 0, .int .i64 47520, .int .i64 0, .int .i64 0, .int .i64 0, .int .i64 0, .int .i64 0, .int .i64 0] 26)))
  clear hb1 HB0 HG0 R0
  go_wp2_with ((with_reducible refine wpl_store_new 7 23 _ _ ?_ ?_ ?_ ?_ noBank_size (by rfl) (by rfl) ?_); rfl; rfl; rfl; rfl)
  refine (RP.out _ HB1.out).mono ?_
  rintro e w2 ⟨rfl, hb2⟩
  have HB2 := hide (below_on HB1.out hb2)
  have HG2 := hide (blk_below HG1.out hb2)
  clear hb2 HB1 HG1
  by_cases hE : evE l = 0
  · have RPE := hide (show repP l = repV l from if_pos hE)
    have H30 := hide (evE_zero hE).1
    have HALL := hide (evE_zero hE).2
    have HE := hide hE
    have HZ := hide (show (bankC (repV l)).size = 8 by rw [bankC_size]; exact repV_len _)
    have HO := hide (bankC_one (repV l))
    rw [hE, errV_zero, RPE.out]
    have HK2 : Hid (Kept w x y w2.heap.size (bankC (repV l)) (w2.alloc (.cells (bankC (repV l)) 26))) := ⟨below_on HB2.out (below_new _ _), blk_keep HG2.out _, blk_new _ _⟩
    have hlt : w.heap.size < w2.heap.size := blk_lt HG2.out
    clear hE RPE HB2 HG2
    go_upto_region 5 with ((with_reducible refine wpl_store_new 9 40 _ _ ?_ ?_ ?_ ?_ noBank_size HZ.out HO.out ?_); rfl; rfl; rfl; rfl)
    have hsz2 : w2.heap.size < (w2.alloc (.cells (bankC (repV l)) 26)).heap.size := by simp
    generalize w2.alloc (.cells (bankC (repV l)) 26) = wc at *
    generalize w2.heap.size = B at *
    have HRW := hide (HR.out.below HK2.out.lo)
    go_upto_region 9 with (at_builtin; refine wpList_appRs (n := 2) (cv := evV) rfl _ _ 22 rfl _ 24 _ 16 info_ev rfl (by omega) (by omega) Try.underlying22 evV_len _ [] rfl (OwnR.nil _ _ _) a n cap l rfl HN.out HC.out HRW.out (fun e _ => evV_one e) (by have := H30.out; simp; omega) (Nat.le_refl _) ?_; intro v7 w7 ho7 hg7)
    have hb7 : Below wc.heap.size wc w7 := (Below.refl _ _).grown hg7 (Nat.le_refl _) (fun k hk => absurd (show (none : Option Nat) = some k from hk) (by simp))
    rw [List.nil_append] at ho7
    have HO7 := hide ho7
    have HB7 := hide hb7
    have HK7 := hide (HK2.out.below hb7)
    have hsz := hb7.size
    obtain ⟨t0, t1⟩ := pair_cells HK7.out.m
    have LEN := hide (show l.length ≤ 1000000 by have := H30.out; omega)
    clear hg7 ho7 hb7 HRW
    go_upto_region 10 with (at_builtin; refine wpList_appR (n := 2) (cv := evV) rfl _ _ 22 rfl wc.heap.size 24 _ 16 info_ev rfl (by omega) (by omega) Try.underlying22 evV_len evV_one _ l rfl (HO7.out.alloc _) w7.heap.size (x, y) rfl (ev_new _ _ _ _ _ rfl) LEN.out (by simp; omega) ?_; intro v8 w8 ho8 hg8)
    have hb8 : Below wc.heap.size wc w8 := ((HB7.out.alloc hsz _).grown hg8 (by simp; omega) (fun k hk => HO7.out.block k hk))
    have HK8 := hide (HK2.out.below hb8)
    obtain ⟨ad, cp, rfl, hcp, hrow⟩ := ho8.row evV_len
    have hk9 : (l ++ [(x, y)]).length = l.length + 1 := by simp
    rw [hk9]
    have R8 := hide (HRL.out ad (l ++ [(x, y)]) (l.length + 1) cp w8 hk9.symm (by have := H30.out; unfold maxLen; omega) hrow)
    generalize l.length + 1 = k9 at *
    clear hg8 ho8 hb8 hrow hcp t0 t1 HK7 HB7 HO7 hsz
    go_wp2_with (fail)
    refine R8.out.mono ?_
    rintro e w9 ⟨rfl, hb9⟩
    have HK9 := hide (HK8.out.below (below_on hb9 (below_new w9 (.cells (bankC (repP (l ++ [(x, y)]))) 26))))
    have HC9 := hide (blk_new w9 (.cells (bankC (repP (l ++ [(x, y)]))) 26))
    have hlt9 := blk_lt (blk_below HK8.out.b hb9)
    have HZ9 := hide (show (bankC (repP (l ++ [(x, y)]))).size = 8 by
      rw [bankC_size]
      unfold repP
      split
      · exact repV_len _
      · rfl)
    have HO9 := hide (bankC_one (repP (l ++ [(x, y)])))
    clear hb9 HK8 R8
    have HEV : Hid ((errV 40 (evE (l ++ [(x, y)])) = .nilIface ∧ evE (l ++ [(x, y)]) = 0) ∨ ∃ k, errV 40 (evE (l ++ [(x, y)])) = .iface 40 (.int .i64 k)) := by
      by_cases h : evE (l ++ [(x, y)]) = 0
      · exact Or.inl ⟨by rw [h]; rfl, h⟩
      · exact Or.inr ⟨_, errV_no h⟩
    generalize errV 40 (evE (l ++ [(x, y)])) = ev at *
    go_upto_region 11 with ((with_reducible refine wpl_store_new 12 54 _ _ ?_ ?_ ?_ ?_ noBank_size HZ9.out HO9.out ?_); rfl; rfl; rfl; rfl)
    generalize w9.heap.size = C at *
    go_cut [57] from 56 to 57 (fun s57 w' => ∃ (b : Bool) (w3 : World), s57 = .bool b ∧ w' = w3 ∧ Hid (b = true → evE (l ++ [(x, y)]) = 0) ∧ Hid (Kept w x y B (bankC (repV l)) w3) ∧ Hid (w3.heap[C]? = some (.cells (bankC (repP (l ++ [(x, y)]))) 26)))
    case first =>
      rcases HEV.out with ⟨rfl, h⟩ | ⟨k, rfl⟩
      · have HX := hide h
        clear h HEV
        go_wp2
        go_meet
        exact ⟨true, _, rfl, rfl, fun _ => HX.out, HK9.out, HC9.out⟩
      · clear HEV
        go_wp2
        go_meet
        exact ⟨false, _, rfl, rfl, (fun h => by cases h), HK9.out, HC9.out⟩
    case rest =>
    obtain ⟨b, w3, rfl, hw3, HX, HK3, HC3⟩ := hcut
    rw [hw3]
    clear hw3 HK9 HC9 HEV HK2
    go_upto_if 57 with (fail)
    go_cut [6, 13, 14] from 58 to 73 (fun _ _ _ w' => ∃ w4 : World, w' = w4 ∧ Hid (Kept w x y B (bankC (repV l)) w4))
    case first =>
      cases b with
      | false =>
        go_wp2
        go_meet
        exact ⟨_, rfl, HK3.out⟩
      | true =>
        have hE2 := HX.out rfl
        have hok : evOk (x, y) = true := List.all_eq_true.1 (evE_zero hE2).2 (x, y) (by simp)
        have RP2 := hide (show repP (l ++ [(x, y)]) = repV (l ++ [(x, y)]) from if_pos hE2)
        rw [RP2.out] at HC3 HZ9 HO9
        have EX := hide (fun (W : World) => extend_any (repV l) (bankC (repV l)) x y W rfl (repV_len l))
        rw [(rep_ext (l := l) hok).1, (rep_ext (l := l) hok).2, errV_zero] at EX
        have EQ : ∀ W : World, (Op.equalIn 10000 26 (.agg (bankC (repV (l ++ [(x, y)])))) (.agg (bankC (repV (l ++ [(x, y)]))))).run Try.prog W = .ok true W := fun W => by
          have := eq_bank (xs := repV (l ++ [(x, y)])) (ys := repV (l ++ [(x, y)])) (repV_len _) (repV_len _) W
          rw [this, decide_eq_true rfl]
        clear hE2 hok HX RP2
        obtain ⟨t0, t1⟩ := pair_cells HK3.out.m
        generalize repV (l ++ [(x, y)]) = r2 at *
        go_wp2_with ((with_reducible refine wpl_load 9 ?_ ?_ _ ?_ _ _ HK3.out.b HZ.out ?_); rfl; rfl; rfl)
        refine (EX.out _).mono ?_
        rintro e w5 ⟨rfl, hb5⟩
        have HK5 := hide (HK3.out.below (below_on hb5 (below_new w5 (.cells (bankC r2) 26))))
        have HC5 := hide (blk_below HC3.out (below_on hb5 (below_new w5 (.cells (bankC r2) 26))))
        have HD5 := hide (blk_new w5 (.cells (bankC r2) 26))
        clear hb5 HK3 HC3 t0 t1 EX
        go_wp2_with (first | ((with_reducible refine wpl_store_new 13 65 _ _ ?_ ?_ ?_ ?_ noBank_size HZ9.out HO9.out ?_); rfl; rfl; rfl; rfl) | ((with_reducible refine wpl_load 12 ?_ ?_ _ ?_ _ _ HC5.out HZ9.out ?_); rfl; rfl; rfl) | ((with_reducible refine wpl_load 13 ?_ ?_ _ ?_ _ _ HD5.out HZ9.out ?_); rfl; rfl; rfl))
        go_meet
        exact ⟨_, rfl, HK5.out⟩
    case rest =>
    obtain ⟨w4, hw4, HK4⟩ := hcut
    rw [hw4]
    clear hw4 HK3 HC3 HX HZ9 HO9 hlt9
    by_cases hi : 0 ≤ i ∧ i < (n : Int) - 1
    · obtain ⟨k, rfl⟩ : ∃ k : Nat, i = k := ⟨i.toNat, by omega⟩
      have hk1 : k + 1 < n := by omega
      have hk1z : (k : Int) + 1 < n := by omega
      have hkz : ¬ (n : Int) - 1 ≤ k := by omega
      obtain ⟨ea, ha⟩ : ∃ c, l[k]? = some c := ⟨l[k]'(by have := HN.out; omega), List.getElem?_eq_getElem (by have := HN.out; omega)⟩
      obtain ⟨eb, hb⟩ : ∃ c, l[k + 1]? = some c := ⟨l[k + 1]'(by have := HN.out; omega), List.getElem?_eq_getElem (by have := HN.out; omega)⟩
      have HA := hide ha
      have HBB := hide hb
      have HRW := hide (HR.out.below HK4.out.lo)
      clear hi ha hb
      go_upto_region 19 with (at_builtin; refine wpList_appRs (n := 2) (cv := evV) rfl _ _ 22 rfl _ 24 _ 16 info_ev rfl (by omega) (by omega) Try.underlying22 evV_len _ [] rfl (OwnR.nil _ _ _) a n cap l rfl HN.out HC.out HRW.out (fun e _ => evV_one e) (by have := H30.out; simp; omega) (Nat.le_refl _) ?_; intro v7 w7 ho7 hg7)
      have hb7 : Below w4.heap.size w4 w7 := (Below.refl _ _).grown hg7 (Nat.le_refl _) (fun k hk => absurd (show (none : Option Nat) = some k from hk) (by simp))
      rw [List.nil_append] at ho7
      have HO7 := hide ho7
      have HK7 := hide (HK4.out.below hb7)
      obtain ⟨g, c7, rfl⟩ : ∃ g c7, v7 = .slice (some ⟨g, 0, none⟩) l.length c7 := by
        rcases ho7.2 with ⟨_, h⟩ | ⟨g, c7, _, h, _⟩
        · have := HN.out; omega
        · exact ⟨g, c7, h⟩
      have hg4 := HO7.out.block g rfl
      have hB4 := blk_lt HK4.out.b
      have hm4 := blk_lt HK4.out.m
      have HRW7 := hide (HR.out.below HK7.out.lo)
      clear hg7 ho7 hb7 HRW HK4
      obtain ⟨b1, o1, rfl, hcb⟩ := HRW7.out.at HBB.out
      obtain ⟨y0, y1⟩ := ev_cells hcb
      obtain ⟨f0, f1, f2, f3⟩ := own_facts HO7.out HA.out
      have HO8 := hide (own_put (r := eb.1) (m := eb.2) HO7.out HA.out)
      have HN8 := hide (((Only.refl (fun j => j = g) w7).setCell (p := ⟨g, k * 2, none⟩) rfl (.int .i64 eb.1)).setCell (p := ⟨g, k * 2 + 1, none⟩) rfl (.int .i64 eb.2))
      have HK8 := hide (HK7.out.only HN8.out (fun j hj => by rw [show j = g from hj]; omega))
      have hz8 : ((w7.setCell ⟨g, k * 2, none⟩ (.int .i64 eb.1)).setCell ⟨g, k * 2 + 1, none⟩ (.int .i64 eb.2)).heap.size = w7.heap.size := by simp [World.setCell]
      have hkn : k < n := by omega
      have hknz : (k : Int) < n := by omega
      have hnl : n = l.length := HN.out
      clear hcb HRW7
      go_upto_region 20 with (fail)
      generalize (w7.setCell ⟨g, k * 2, none⟩ (.int .i64 eb.1)).setCell ⟨g, k * 2 + 1, none⟩ (.int .i64 eb.2) = w8 at *
      clear y0 y1 f0 f1 f2 f3 HO7 HK7 HN8
      have hlen : (l.set k eb).length = l.length := List.length_set
      have HO8' : Hid (OwnR 2 evV w8 w4.heap.size 24 (.slice (some ⟨g, 0, none⟩) (l.set k eb).length c7) (l.set k eb)) := by rw [hlen]; exact HO8.out
      have hset : (l.set k eb)[k + 1]? = some eb := by rw [List.getElem?_set_ne (by omega)]; exact HBB.out
      have HSET := hide hset
      obtain ⟨f0, f1, f2, f3⟩ := own_facts HO8'.out hset
      obtain ⟨b2, o2, eq2, hca⟩ := (HR.out.below HK8.out.lo).at HA.out
      cases eq2
      obtain ⟨y0, y1⟩ := ev_cells hca
      have HO9 := hide (own_put (r := ea.1) (m := ea.2) HO8'.out hset)
      have HN9 := hide (((Only.refl (fun j => j = g) w8).setCell (p := ⟨g, (k + 1) * 2, none⟩) rfl (.int .i64 ea.1)).setCell (p := ⟨g, (k + 1) * 2 + 1, none⟩) rfl (.int .i64 ea.2))
      have HK9 := hide (HK8.out.only HN9.out (fun j hj => by rw [show j = g from hj]; omega))
      rw [hlen] at HO9
      clear hca hset HO8 hlen
      go_upto_region 21 with (fail)
      generalize (w8.setCell ⟨g, (k + 1) * 2, none⟩ (.int .i64 ea.1)).setCell ⟨g, (k + 1) * 2 + 1, none⟩ (.int .i64 ea.2) = w9' at *
      clear y0 y1 f0 f1 f2 f3 HO8' HK8 HN9 HSET
      obtain ⟨pp, rr, hl1, hl2⟩ := swap_eq HA.out HBB.out
      have HALL2 := HALL.out
      rw [hl1, List.all_append, List.all_cons, List.all_cons, Bool.and_eq_true, Bool.and_eq_true, Bool.and_eq_true] at HALL2
      obtain ⟨z1, z2, z3, z4⟩ := HALL2
      have HE2 := hide (show evE ((l.set k eb).set (k + 1) ea) = 0 from evE_ok (by rw [List.length_set, List.length_set]; exact H30.out) (by rw [hl2, List.all_append, List.all_cons, List.all_cons, z1, z2, z3, z4]; rfl))
      have OT := hide (fun (h : ¬ ea.1 = eb.1) => show repV ((l.set k eb).set (k + 1) ea) = repV l by rw [hl2, hl1]; exact order_two z2 z3 h)
      have OO := hide (fun (h : ea.1 = eb.1) => show repV ((l.set k eb).set (k + 1) ea) = repV l ↔ ea = eb by rw [hl2, hl1]; exact order_one z2 z3 z4 h)
      have hln : ((l.set k eb).set (k + 1) ea).length = l.length := by rw [List.length_set, List.length_set]
      have HRR : Hid (RRow 2 evV w9' (some ⟨g, 0, none⟩) ((l.set k eb).set (k + 1) ea)) := by
        obtain ⟨a', c', hv', _, hrow⟩ := HO9.out.row evV_len
        injection hv' with e1 e2 e3
        rw [e1]
        exact hrow
      have R9 := hide (HRL.out (some ⟨g, 0, none⟩) ((l.set k eb).set (k + 1) ea) l.length c7 w9' hln.symm (by have := H30.out; unfold maxLen; omega) HRR.out)
      rw [HE2.out, errV_zero, show repP ((l.set k eb).set (k + 1) ea) = repV ((l.set k eb).set (k + 1) ea) from if_pos HE2.out] at R9
      have hrl := repV_len ((l.set k eb).set (k + 1) ea)
      have HZ3 := hide (show (bankC (repV ((l.set k eb).set (k + 1) ea))).size = 8 by rw [bankC_size]; exact hrl)
      have HO3 := hide (bankC_one (repV ((l.set k eb).set (k + 1) ea)))
      have HRL3 := hide hrl
      have HRLL := hide (repV_len l)
      clear hl1 hl2 z1 z2 z3 z4 HE2 hln HRR HO9 hrl
      generalize repV ((l.set k eb).set (k + 1) ea) = r3 at *
      generalize repV l = r1 at *
      go_wp2_with (fail)
      refine R9.out.mono ?_
      rintro e w10 ⟨rfl, hb10⟩
      have HK10 := hide (HK9.out.below (below_on hb10 (below_new w10 (.cells (bankC r3) 26))))
      have HD10 := hide (blk_new w10 (.cells (bankC r3) 26))
      clear hb10 HK9 R9
      go_upto_region 24 with ((with_reducible refine wpl_store_new 16 105 _ _ ?_ ?_ ?_ ?_ noBank_size HZ3.out HO3.out ?_); rfl; rfl; rfl; rfl)
      generalize w10.alloc (.cells (bankC r3) 26) = wf at *
      generalize w10.heap.size = D at *
      obtain ⟨b3, o3, eq3, hca⟩ := (HR.out.below HK10.out.lo).at HA.out
      cases eq3
      obtain ⟨x0, x1⟩ := ev_cells hca
      obtain ⟨b4, o4, eq4, hcb⟩ := (HR.out.below HK10.out.lo).at HBB.out
      cases eq4
      obtain ⟨y0, y1⟩ := ev_cells hcb
      clear hca hcb
      by_cases hreg : ea.1 = eb.1
      · have OE := hide (OO.out hreg)
        clear OT OO
        obtain ⟨r, m⟩ := ea
        obtain ⟨r', m'⟩ := eb
        simp only [] at hreg x0 x1 y0 y1 OE
        subst hreg
        go_quiet (fail)
        go_wp2
        obtain ⟨d0, d1, d2, d3, d4, d5, d6, d7, rfl⟩ := eight_list HRL3.out
        obtain ⟨c0, c1, c2, c3, c4, c5, c6, c7', rfl⟩ := eight_list HRLL.out
        obtain ⟨p0, p1, p2, p3, p4, p5, p6, p7⟩ := bank8 (show wf.heap[D]? = some (.cells (bankC [d0, d1, d2, d3, d4, d5, d6, d7]) 26) from HD10.out)
        obtain ⟨q0, q1, q2, q3, q4, q5, q6, q7⟩ := bank8 HK10.out.b
        by_cases hm : m = m'
        · subst hm
          have hdq := OE.out.2 rfl
          have EQ : ∀ W : World, (Op.equalIn 10000 26 (.agg #[.int .i64 d0, .int .i64 d1, .int .i64 d2, .int .i64 d3, .int .i64 d4, .int .i64 d5, .int .i64 d6, .int .i64 d7]) (.agg #[.int .i64 c0, .int .i64 c1, .int .i64 c2, .int .i64 c3, .int .i64 c4, .int .i64 c5, .int .i64 c6, .int .i64 c7'])).run Try.prog W = .ok true W := fun W => by
            have := eq_bank (xs := [d0, d1, d2, d3, d4, d5, d6, d7]) (ys := [c0, c1, c2, c3, c4, c5, c6, c7']) rfl rfl W
            rw [decide_eq_true hdq] at this
            exact this
          clear hdq OE
          go_quiet (fail)
          go_wp2
          go_ret
          exact ⟨rfl, below_on (below_on HK10.out.lo (quiet_below _ _)) (quiet_below _ _)⟩
        · have hdq : ¬ [d0, d1, d2, d3, d4, d5, d6, d7] = [c0, c1, c2, c3, c4, c5, c6, c7'] := fun h => hm (by have := OE.out.1 h; cases this; rfl)
          have EQ : ∀ W : World, (Op.equalIn 10000 26 (.agg #[.int .i64 d0, .int .i64 d1, .int .i64 d2, .int .i64 d3, .int .i64 d4, .int .i64 d5, .int .i64 d6, .int .i64 d7]) (.agg #[.int .i64 c0, .int .i64 c1, .int .i64 c2, .int .i64 c3, .int .i64 c4, .int .i64 c5, .int .i64 c6, .int .i64 c7'])).run Try.prog W = .ok false W := fun W => by
            have := eq_bank (xs := [d0, d1, d2, d3, d4, d5, d6, d7]) (ys := [c0, c1, c2, c3, c4, c5, c6, c7']) rfl rfl W
            rw [decide_eq_false hdq] at this
            exact this
          clear hdq OE
          go_quiet (fail)
          go_wp2
          go_ret
          exact ⟨rfl, below_on (below_on HK10.out.lo (quiet_below _ _)) (quiet_below _ _)⟩
      · have OE := hide (OT.out hreg)
        clear OT OO
        have EQ : ∀ W : World, (Op.equalIn 10000 26 (.agg (bankC r3)) (.agg (bankC r1))).run Try.prog W = .ok true W := fun W => by
          have := eq_bank (xs := r3) (ys := r1) HRL3.out HRLL.out W
          rw [this, decide_eq_true OE.out]
        go_quiet (fail)
        go_wp2_with (first | ((with_reducible refine wpl_load 16 ?_ ?_ _ ?_ _ _ (blk_below HD10.out (quiet_below _ _)) HZ3.out ?_); rfl; rfl; rfl) | ((with_reducible refine wpl_load 9 ?_ ?_ _ ?_ _ _ (blk_below HK10.out.b (quiet_below _ _)) HZ.out ?_); rfl; rfl; rfl))
        go_ret
        exact ⟨rfl, below_on HK10.out.lo (quiet_below _ _)⟩
    · by_cases h0 : i < 0
      · clear hi
        go_wp2
        go_ret
        exact ⟨rfl, HK4.out.lo⟩
      · have h1 : (n : Int) - 1 ≤ i := by omega
        clear hi
        go_wp2
        go_ret
        exact ⟨rfl, HK4.out.lo⟩
  · have HX := hide (errV_no (T := 40) hE)
    have RPE := hide (show repP l = noBank from if_neg hE)
    rw [HX.out, RPE.out, noBank_cells]
    clear hE HX RPE
    go_wp2_with ((with_reducible refine wpl_store_new 9 40 _ _ ?_ ?_ ?_ ?_ noBank_size noBank_size noBank_one ?_); rfl; rfl; rfl; rfl)
    go_ret
    exact ⟨rfl, below_on HB2.out (below_new _ _)⟩
end Go.Proofs.Yteebkpjnihffiaa.EventOrder
