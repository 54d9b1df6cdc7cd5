/-
  The walk of stairlaw2.BootTells: it returns true, and memory that was there stays as it was.
-/
import Derived.Test.YtbpgchmbmgfoaaaDoorBootLaw
import Derived.Test.YtbpgchmbmgfoaaaDoorSameEv
import Derived.Test.YtbpgchmbmgfoaaaDoorSignRef
import Derived.Test.YtbpgchmbmgfoaaaDoorOnly
import Derived.Test.YtbpgchmbmgfoaaaDoorBank4
import Derived.Test.YtbpgchmbmgfoaaaDoorAs
import Derived.Deep.DeepCutAuto
import Derived.Deep.CutBlock
namespace Go.Proofs.YtbpgchmbmgfoaaaDoor.BootTells
open Go.ChangeShapes Go.WideShapes Go.ChangeAt Go.RowKit
open Go.Proofs.YtbpgchmbmgfoaaaDoor.M Go.Proofs.YtbpgchmbmgfoaaaDoor.Boot Go.Proofs.YtbpgchmbmgfoaaaDoor.Image
set_option linter.unusedVariables false

/-- The fault that is seen ahead of the images. -/
def begE (b : Bool) (n : Nat) : Int := if b = true then (if 8 < n then 4 else 0) else 1
theorem begE_no {q : Int} {l : List Sg} (h : ¬ begE (inB q) l.length = 0) : botE q l = begE (inB q) l.length := by
  unfold begE at h ⊢
  unfold botE
  by_cases h1 : inB q = true
  · rw [if_pos h1] at h ⊢
    rw [if_pos h1]
    by_cases h2 : 8 < l.length
    · rw [if_pos h2, if_pos h2]
    · rw [if_neg h2] at h; exact absurd rfl h
  · rw [if_neg h1, if_neg h1]
theorem begE_ok {q : Int} {l : List Sg} (h : begE (inB q) l.length = 0) : botE q l = botF l := by
  unfold begE at h
  by_cases h1 : inB q = true
  · rw [if_pos h1] at h
    by_cases h2 : 8 < l.length
    · rw [if_pos h2] at h; cases h
    · exact botE_go h1 h2
  · rw [if_neg h1] at h; cases h
theorem OwnR.only {n : Nat} {α : Type} {cv : α → List Value} {S : Nat → Prop} {w w1 : World} {base : Nat} {e : TypeId} {v : Value} {xs : List α} (h : OwnR n cv w base e v xs) (ho : Only S w w1) (hn : ∀ k, v.ownBlock = some k → ¬ S k) : OwnR n cv w1 base e v xs := by
  refine ⟨h.1, ?_⟩
  rcases h.2 with h2 | ⟨r, cap, cur, e1, e2, e3, e4⟩
  · exact Or.inl h2
  · exact Or.inr ⟨r, cap, cur, e1, e2, ho.heap e3 (hn r (by rw [e1]; rfl)), e4⟩
theorem evV_one (e : Int × Int) : ∀ u ∈ evV e, u.oneCell' = true := by
  intro u hu
  simp [evV] at hu
  rcases hu with rfl | rfl <;> rfl
theorem info_ev : (Tryd.prog.info? 38).map (fun i => (i.zero, i.size, i.bytes)) = some (some (.agg #[.int .i64 0, .int .i64 0]), 2, 16) := by kernel_rfl
theorem ev_new (W : World) (x y : Int) (t : TypeId) (b : Nat) (hb : W.heap.size = b) : ∀ (j : Nat) (u : Value), (evV (x, y))[j]? = some u → (W.alloc (.cells #[.int .i64 x, .int .i64 y] t)).cell? ⟨b, j, none⟩ = some u := by
  subst hb
  intro j u hu
  rw [cell_of_row _ _ _ _ t _ (blk_new W _)]
  simpa [evV] using hu
theorem sg_cells {w : World} {b o : Nat} {s : Sg} (h : ∀ (j : Nat) (v : Value), (sgV s)[j]? = some v → w.cell? ⟨b, o + j, none⟩ = some v) :
    w.cell? ⟨b, o, none⟩ = some (.string s.nm) ∧ w.cell? ⟨b, o + 1, none⟩ = some (.int .i64 s.v) ∧ w.cell? ⟨b, o + 2, none⟩ = some (.string s.cd) ∧ w.cell? ⟨b, o + 3, none⟩ = some (.int .i64 s.p) ∧ w.cell? ⟨b, o + 4, none⟩ = some (.int .i64 s.a) := ⟨h 0 _ rfl, h 1 _ rfl, h 2 _ rfl, h 3 _ rfl, h 4 _ rfl⟩
theorem drop_at {l : List Sg} {k : Nat} {s : Sg} (h : l[k]? = some s) : l.drop k = s :: l.drop (k + 1) := by
  obtain ⟨h1, h2⟩ := List.getElem?_eq_some_iff.1 h
  rw [List.drop_eq_getElem_cons h1, h2]
theorem mea_ok {s : Sg} (h : sgE s = 0) : meaS s = ofFrom 1 (lineB s.nm s.v s.cd).data.toList := meaV_ok h

/-- Behind some images, all right and started: the events, the bank, what was there. -/
structure Far (w0 : World) (q : Int) (l : List Sg) (B : Nat) (k : Nat) (es : List (Int × Int)) (v : Value) (W : World) : Prop where
  own : OwnR 2 evV W (B + 1) 38 v es
  bank : W.heap[B]? = some (.cells (bankC (repV es)) 32)
  lo : Below w0.heap.size w0 W
  hB : w0.heap.size ≤ B
theorem Far.below {w0 W W' : World} {q : Int} {l : List Sg} {B k : Nat} {es : List (Int × Int)} {v : Value} (h : Far w0 q l B k es v W) (hb : Below W.heap.size W W') : Far w0 q l B k es v W' := ⟨h.own.below hb, blk_below h.bank hb, below_on h.lo hb, h.hB⟩

theorem Far.next {w0 W w6 : World} {q : Int} {l : List Sg} {B k : Nat} {es : List (Int × Int)} {v v' : Value} {m : Int} {o : Obj} (h : Far w0 q l B k es v W) (hk : k < 8) (he : ∀ e ∈ es, 0 ≤ e.1 ∧ e.1 < k) (hW : B < W.heap.size)
    (ho : OwnR 2 evV w6 (B + 1) 38 v' (es ++ [((k : Int), m)])) (hg : ((W.setCell ⟨B, k, none⟩ (.int .i64 (stp 7919 0 m))).alloc o).grownBy w6 v.ownBlock) : Far w0 q l B (k + 1) (es ++ [((k : Int), m)]) v' w6 := by
  have hb1 := heap_setCell_same W B k _ _ (.int .i64 (stp 7919 0 m)) h.bank
  have hb2 := blk_keep hb1 o
  have hne : ¬ v.ownBlock = some B := fun e => by have := h.own.block B e; omega
  have o1 : Only (fun k => v.ownBlock = some k) ((W.setCell ⟨B, k, none⟩ (.int .i64 (stp 7919 0 m))).alloc o) w6 := (Only.refl _ _).grown hg (fun k hk => Or.inl hk)
  have o2 : Only (fun j => B ≤ j) W w6 := (((Only.refl (fun j => B ≤ j) W).setCell (p := ⟨B, k, none⟩) (Nat.le_refl B) _).alloc o).grown hg (fun j hj => Or.inl (by have := h.own.block j hj; omega))
  refine ⟨ho, ?_, h.lo.trans (o2.below h.lo.size (fun j hj => Nat.le_trans h.hB hj)), h.hB⟩
  rw [rep_next hk he, ← bankC_set]
  exact o1.heap hb2 hne
theorem Far.set {w0 W : World} {q : Int} {l : List Sg} {B k : Nat} {es : List (Int × Int)} {v : Value} (h : Far w0 q l B k es v W) (x : Value) : OwnR 2 evV (W.setCell ⟨B, k, none⟩ x) (B + 1) 38 v es :=
  OwnR.only h.own ((Only.refl (fun j => j = B) W).setCell (p := ⟨B, k, none⟩) rfl x) (fun j hj e => by have := h.own.block j hj; omega)

set_option maxRecDepth 20000 in
set_option maxHeartbeats 8000000 in
theorem walk (RL : RunLaw) (q : Int) (a : Option Addr) (l : List Sg) (n cap : Nat) (w : World) (hn : n = l.length) (hm : n ≤ maxLen) (hr : RRow 5 sgV w a l) (hs : ∀ s ∈ l, szS s) (hh : Has w) (hg : As.Handle w) :
    Calls Tryd.prog 3 #[.int .i64 q, .slice a n cap] w fun e w' => e = .returned (.bool true) ∧ Below w.heap.size w w' := by
  have HH := hide (fun (W : World) (h : Below w.heap.size w W) => hh.below h)
  have HG := hide (fun (W : World) (h : Below w.heap.size w W) => hg.below h)
  have HRL := hide RL
  have HR := hide hr
  have HS := hide hs
  have HN := hide hn
  have HM := hide hm
  have hm' : n ≤ 9223372036854775807 := by unfold maxLen at hm; omega
  clear RL hh hg hr hs hn hm
  go_enter Tryd.func3, Tryd.ntmps3
  go_wp2_with (fail)
  refine (Ref.in_any q _).mono ?_
  rintro e w0 ⟨rfl, hw0⟩
  rw [hw0]
  clear hw0
  have EN := hide (fun h => begE_no (q := q) (l := l) h)
  have EO := hide (fun h => begE_ok (q := q) (l := l) h)
  rw [← HN.out] at EN EO
  generalize inB q = bq at *
  go_upto_if 20 with (fail)
  go_cut [5] from 17 to 23 (fun s5 w' => s5 = .int .i64 (begE bq n) ∧ w' = w)
  case first =>
    cases bq with
    | false =>
      have EB := hide (show begE false n = 1 from rfl)
      go_wp2
      go_meet
      exact ⟨by rw [EB.out], rfl⟩
    | true =>
      by_cases h8 : 8 < n
      · have h8z : (8 : Int) < n := by omega
        have EB := hide (show begE true n = 4 by unfold begE; rw [if_pos rfl, if_pos h8])
        go_wp2
        go_meet
        exact ⟨by rw [EB.out], rfl⟩
      · have h8z : ¬ (8 : Int) < n := by omega
        have EB := hide (show begE true n = 0 by unfold begE; rw [if_pos rfl, if_neg h8])
        go_wp2
        go_meet
        exact ⟨by rw [EB.out], rfl⟩
  case rest =>
  obtain ⟨rfl, hw0⟩ := hcut
  rw [hw0]
  clear hw0
  generalize begE bq n = e0 at *
  go_upto_block 0 with (fail)
  go_cut [5, 7] from 24 to 39 (fun s5 _ w' => s5 = .int .i64 (botE q l) ∧ ∃ w1, w' = w1 ∧ Hid (Below w.heap.size w w1))
  case first =>
    go_wp2
    by_cases h0 : e0 = 0
    · have EF := hide (EO.out h0)
      subst h0
      clear EN EO
      go_loopw [5, 7] (fun s5 s7 wr => ∃ (k : Nat) (e : Int), k ≤ n ∧ s7 = .int .i64 k ∧ s5 = .int .i64 e ∧ Hid (Below w.heap.size w wr) ∧ Hid ((e = 0 ∧ botF l = botF (l.drop k)) ∨ (¬ e = 0 ∧ e = botF l))) (fun _ s7 _ => n - (intOf s7).toNat)
      case atStart => exact ⟨0, 0, by omega, rfl, rfl, Below.refl _ _, Or.inl ⟨rfl, rfl⟩⟩
      case round =>
        obtain ⟨k, e, hk, rfl, rfl, HB, HE⟩ := hrel
        by_cases hlt : k < n
        · have hlz : (k : Int) < n := by omega
          by_cases he : e = 0
          · subst he
            have HF := hide (show botF l = botF (l.drop k) by rcases HE.out with h | h; exact h.2; exact absurd rfl h.1)
            clear HE
            obtain ⟨s, hx⟩ : ∃ c, l[k]? = some c := ⟨l[k]'(by have := HN.out; omega), List.getElem?_eq_getElem (by have := HN.out; omega)⟩
            have HSZ := hide (HS.out s (List.mem_of_getElem? hx))
            have HD := hide (drop_at hx)
            obtain ⟨b, off, rfl, hc⟩ := (HR.out.below HB.out).at hx
            obtain ⟨x0, x1, x2, x3, x4⟩ := sg_cells hc
            have IM := hide (Ref.image_any s.nm s.cd s.v wr HSZ.out.1 HSZ.out.2)
            unfold imgC at IM
            clear hx hc
            go_wp2_with (fail)
            refine IM.out.mono ?_
            rintro e w1 ⟨rfl, hb1⟩
            have HB1 := hide (below_on HB.out hb1)
            clear hb1 IM x0 x1 x2 x3 x4 HB
            have HE1 : Hid ((imgE s.nm s.v s.cd = 0 ∧ botF l = botF (l.drop (k + 1))) ∨ (¬ imgE s.nm s.v s.cd = 0 ∧ imgE s.nm s.v s.cd = botF l)) := by
              by_cases h : imgE s.nm s.v s.cd = 0
              · exact Or.inl ⟨h, by rw [HF.out, HD.out, botF_ok h]⟩
              · exact Or.inr ⟨h, by rw [HF.out, HD.out, botF_no h]; rfl⟩
            generalize imgE s.nm s.v s.cd = ie at *
            go_wp2
            go_roundw
            case rel => exact ⟨k + 1, ie, by omega, by go_num, rfl, HB1.out, HE1.out⟩
            case measure => simp [intOf]; omega
          · have EE := hide (show e = botE q l by rw [EF.out]; rcases HE.out with h | h; exact absurd h.1 he; exact h.2)
            clear HE
            go_wp2
            go_meet
            exact ⟨by rw [EE.out], _, rfl, HB.out⟩
        · have hlz : ¬ (k : Int) < n := by omega
          have EE := hide (show e = botE q l by
            rw [EF.out]
            rcases HE.out with h | h
            · rw [h.1, h.2, List.drop_eq_nil_of_le (by have := HN.out; omega)]; rfl
            · exact h.2)
          clear HE
          go_wp2
          go_meet
          exact ⟨by rw [EE.out], _, rfl, HB.out⟩
    · have EF := hide (EN.out h0)
      clear EN EO
      go_loopw [5, 7] (fun s5 s7 wr => s7 = .int .i64 0 ∧ s5 = .int .i64 e0 ∧ Hid (wr = w)) (fun _ s7 _ => 1)
      case atStart => exact ⟨rfl, rfl, rfl⟩
      case round =>
        obtain ⟨rfl, rfl, HW⟩ := hrel
        have hw := HW.out
        subst hw
        by_cases h1 : 0 < n
        · have h1z : (0 : Int) < n := by omega
          go_wp2
          go_meet
          exact ⟨by rw [EF.out], _, rfl, Below.refl _ _⟩
        · have h1z : ¬ (0 : Int) < n := by omega
          go_wp2
          go_meet
          exact ⟨by rw [EF.out], _, rfl, Below.refl _ _⟩
  case rest =>
  obtain ⟨rfl, w1, hw1, HB1⟩ := hcut
  rw [hw1]
  clear hw1 EN EO
  generalize hbe : botE q l = be at *
  have HBE := hide hbe
  clear hbe
  go_upto_block 2 with (fail)
  have HF0 : Hid (Far w q l w1.heap.size 0 [] (.slice none 0 0) (w1.alloc (.cells #[.int .i64 0, .int .i64 0, .int .i64 0, .int .i64 0, .int .i64 0, .int .i64 0, .int .i64 0, .int .i64 0] 32))) := ⟨OwnR.nil _ _ _, blk_new _ _, below_on HB1.out (below_new _ _), HB1.out.size⟩
  clear HB1
  generalize w1.heap.size = B at *
  go_cut [9, 10, 11, 12] from 40 to 75 (fun s9 s10 _ _ w' => s10 = .int .i64 (botN q l) ∧ ∃ (v : Value) (w2 : World), s9 = v ∧ w' = w2 ∧ Hid (Far w q l B (botL q l).length (botL q l) v w2))
  case first =>
    go_wp2
    by_cases hE0 : be = 0
    · have hE := HBE.out.trans hE0
      have H8 := hide (botE_zero hE).2.1
      have HA := hide (botF_all (botE_zero hE).2.2)
      have EL := hide (bot_some hE).1
      have EN := hide (bot_some hE).2
      have hn8 : n ≤ 8 := by have := H8.out; have := HN.out; omega
      subst hE0
      clear hE HBE
      go_loopw [9, 10, 11, 12] (fun s9 s10 s11 _ wr => ∃ (k : Nat) (es : List (Int × Int)) (v : Value), k ≤ n ∧ s11 = .int .i64 k ∧ s10 = .int .i64 k ∧ s9 = v ∧ Hid (Far w q l B k es v wr) ∧ Hid (evL q 0 l = es ++ evL q k (l.drop k)) ∧ Hid (stN q l = k + stN q (l.drop k)) ∧ Hid ((∀ e ∈ es, 0 ≤ e.1 ∧ e.1 < k) ∧ es.length = k)) (fun _ _ s11 _ _ => n - (intOf s11).toNat)
      case atStart => exact ⟨0, [], _, by omega, rfl, rfl, rfl, HF0.out, rfl, (by rw [List.drop_zero, Nat.zero_add] : stN q l = 0 + stN q (l.drop 0)), ⟨(fun e h => by cases h), rfl⟩⟩
      case round =>
        obtain ⟨k, es, v, hk, rfl, rfl, rfl, HF, HV, HT, HES⟩ := hrel
        clear HF0
        by_cases hlt : k < n
        · have hlz : (k : Int) < n := by omega
          obtain ⟨s, hx⟩ : ∃ c, l[k]? = some c := ⟨l[k]'(by have := HN.out; omega), List.getElem?_eq_getElem (by have := HN.out; omega)⟩
          have HSZ := hide (HS.out s (List.mem_of_getElem? hx))
          have HD := hide (drop_at hx)
          have hse : imgE s.nm s.v s.cd = 0 := HA.out s (List.mem_of_getElem? hx)
          have HC := hide (show ∀ W, Below w.heap.size w W → ∃ b off, a = some ⟨b, off, none⟩ ∧ W.cell? ⟨b, off + k * 5, none⟩ = some (.string s.nm) ∧ W.cell? ⟨b, off + k * 5 + 1, none⟩ = some (.int .i64 s.v) ∧ W.cell? ⟨b, off + k * 5 + 2, none⟩ = some (.string s.cd) ∧ W.cell? ⟨b, off + k * 5 + 3, none⟩ = some (.int .i64 s.p) ∧ W.cell? ⟨b, off + k * 5 + 4, none⟩ = some (.int .i64 s.a) from fun W hb => by
            obtain ⟨b, off, e, hc⟩ := (HR.out.below hb).at hx
            exact ⟨b, off, e, sg_cells hc⟩)
          have LN := hide (fun W => Ref.line_ok s.nm s.cd s.v W hse)
          have TX := hide (fun W => Ref.text_ok (lineB s.nm s.v s.cd) W (Nat.le_trans (line_size s.nm s.cd s.v hse) (by omega)))
          rw [← meaV_ok hse] at TX
          have HM0 := hide (mea_is s.nm s.v s.cd)
          have TW := hide (fun W => Ref.two_ok 0 (meaV s.nm s.v s.cd) W rfl HM0.out)
          have SL := hide (fun W => Ref.sealed_any q s.v s.p s.a s.nm s.cd W HSZ.out.1 HSZ.out.2)
          have HV1 := hide (fun (h : sldE q s.nm s.v s.cd s.p s.a = 0) => show evL q 0 l = (es ++ [((k : Int), meaV s.nm s.v s.cd)]) ++ evL q (k + 1) (l.drop (k + 1)) by rw [HV.out, HD.out, evL_ok k h, List.append_assoc]; rfl)
          have HT1 := hide (fun (h : sldE q s.nm s.v s.cd s.p s.a = 0) => show stN q l = (k + 1) + stN q (l.drop (k + 1)) by rw [HT.out, HD.out, stN_ok h]; omega)
          have HV2 := hide (fun (h : ¬ sldE q s.nm s.v s.cd s.p s.a = 0) => show evL q 0 l = es ++ [((k : Int), meaV s.nm s.v s.cd)] by rw [HV.out, HD.out, evL_no k h]; rfl)
          have HT2 := hide (fun (h : ¬ sldE q s.nm s.v s.cd s.p s.a = 0) => show stN q l = k by rw [HT.out, HD.out, stN_no h]; omega)
          unfold imgC at LN
          unfold sgnC at SL
          clear hx hse
          generalize sldE q s.nm s.v s.cd s.p s.a = se at *
          generalize meaV s.nm s.v s.cd = m at *
          generalize lineB s.nm s.v s.cd = ln at *
          obtain ⟨b, off, rfl, x0, x1, x2, x3, x4⟩ := HC.out _ HF.out.lo
          go_wp2_with (fail)
          refine (LN.out _).mono ?_
          rintro e w2 ⟨rfl, hb2⟩
          have HF2 := hide (HF.out.below hb2)
          clear hb2 LN HF x0 x1 x2 x3 x4
          go_wp2_with (fail)
          refine (TX.out _).mono ?_
          rintro e w2' ⟨rfl, hw⟩
          rw [hw]
          clear hw TX
          go_wp2_with (fail)
          refine (TW.out _).mono ?_
          rintro e w2' ⟨rfl, hw⟩
          rw [hw]
          clear hw TW
          obtain ⟨y, hy⟩ : ∃ y, (repV es)[k]? = some y := ⟨(repV es)[k]'(by rw [repV_len]; omega), List.getElem?_eq_getElem (by rw [repV_len]; omega)⟩
          have hcell : w2.cell? ⟨B, k, none⟩ = some (.int .i64 y) := bank_cell HF2.out.bank hy
          have hfr : w2.frozen? ⟨B, k, none⟩ = false := by simp [World.frozen?, HF2.out.bank]
          have hlB := blk_lt HF2.out.bank
          have hk8 : (k : Int) < 8 := by omega
          have LEN := hide (show es.length ≤ 1000000 by rw [HES.out.2]; omega)
          have HO2 := hide (HF2.out.set (.int .i64 (stp 7919 0 m)))
          clear hy
          go_wp2_with (at_builtin; refine wpList_appR (n := 2) (cv := evV) rfl _ _ 33 rfl (B + 1) 38 _ 16 info_ev rfl (by omega) (by omega) Tryd.underlying33 evV_len evV_one _ es rfl (HO2.out.alloc _) w2.heap.size ((k : Int), m) rfl (ev_new _ _ _ _ _ (by simp [World.setCell])) LEN.out (by simp [World.setCell]; omega) ?_; intro v' w6 ho hgr; have HF6 := hide (HF2.out.next (by omega) HES.out.1 hlB ho hgr); obtain ⟨b1, off1, eb, z0, z1, z2, z3, z4⟩ := HC.out _ HF6.out.lo; cases eb)
          refine (SL.out _).mono ?_
          rintro e w7 ⟨rfl, hb7⟩
          have HF7 := hide (HF6.out.below hb7)
          have HES7 := hide (show (∀ e ∈ es ++ [((k : Int), m)], 0 ≤ e.1 ∧ e.1 < ((k + 1 : Nat) : Int)) ∧ (es ++ [((k : Int), m)]).length = k + 1 from ⟨fun e he => by
            rcases List.mem_append.1 he with h | h
            · have := HES.out.1 e h; omega
            · rw [List.mem_singleton.1 h]; exact ⟨by omega, by omega⟩, by rw [List.length_append, HES.out.2]; rfl⟩)
          clear ho hgr hcell hfr hlB HO2 HF2 hb7 HF6 z0 z1 z2 z3 z4 SL
          by_cases hS : se = 0
          · have F1 := hide (HV1.out hS)
            have F2 := hide (HT1.out hS)
            subst hS
            go_wp2
            go_roundw
            case rel => exact ⟨k + 1, _, v', by omega, by go_num, by go_num, rfl, HF7.out, F1.out, F2.out, HES7.out⟩
            case measure => simp [intOf]; omega
          · have F1 := hide (EL.out.trans (HV2.out hS))
            have F2 := hide (EN.out.trans (HT2.out hS))
            have F3 := hide (show Far w q l B (botL q l).length (botL q l) v' w7 by rw [F1.out, HES7.out.2]; exact HF7.out)
            go_wp2
            go_meet
            exact ⟨by rw [F2.out], v', _, rfl, rfl, F3.out⟩
        · have hlz : ¬ (k : Int) < n := by omega
          have hd : l.drop k = [] := List.drop_eq_nil_of_le (by have := HN.out; omega)
          have F1 := hide (show botL q l = es by rw [EL.out, HV.out, hd]; exact List.append_nil _)
          have F2 := hide (show botN q l = k by rw [EN.out, HT.out, hd]; rfl)
          have F3 := hide (show Far w q l B (botL q l).length (botL q l) _ _ from by rw [F1.out, HES.out.2]; exact HF.out)
          clear hd
          go_wp2
          go_meet
          exact ⟨by rw [F2.out], _, _, rfl, rfl, F3.out⟩
    · have hE : ¬ botE q l = 0 := fun e => hE0 (HBE.out.symm.trans e)
      have F1 := hide (bot_none hE).1
      have F2 := hide (bot_none hE).2
      have F3 := hide (show Far w q l B (botL q l).length (botL q l) (.slice none 0 0) _ by rw [F1.out]; exact HF0.out)
      clear hE HBE
      go_loopw [9, 10, 11, 12] (fun s9 s10 s11 _ wr => s11 = .int .i64 0 ∧ s10 = .int .i64 0 ∧ s9 = .slice none 0 0 ∧ Hid (Far w q l B (botL q l).length (botL q l) (.slice none 0 0) wr)) (fun _ _ _ _ _ => 1)
      case atStart => exact ⟨rfl, rfl, rfl, F3.out⟩
      case round =>
        obtain ⟨rfl, rfl, rfl, HF⟩ := hrel
        by_cases h1 : 0 < n
        · have h1z : (0 : Int) < n := by omega
          go_wp2
          go_meet
          exact ⟨by rw [F2.out]; rfl, _, _, rfl, rfl, HF.out⟩
        · have h1z : ¬ (0 : Int) < n := by omega
          go_wp2
          go_meet
          exact ⟨by rw [F2.out]; rfl, _, _, rfl, rfl, HF.out⟩
  case rest =>
  obtain ⟨rfl, v, w2, rfl, hw2, HF2⟩ := hcut
  rw [hw2]
  clear hw2 HF0
  have RN := hide (fun (W : World) (h : Below w.heap.size w W) => HRL.out q a l n cap W HN.out HM.out (HR.out.below h) HS.out (HH.out W h))
  obtain ⟨av, cv', rfl, _, hrow⟩ := HF2.out.own.row evV_len
  have HW := hide hrow
  clear hrow
  have HBZ := hide (show (bankC (botB q l)).size = 8 by rw [bankC_size]; exact repV_len _)
  have HBO := hide (Bank.bankC_one (botB q l))
  have EQ : ∀ W : World, (Op.equalIn 10000 32 (.agg (bankC (botB q l))) (.agg (bankC (botB q l)))).run Tryd.prog W = .ok true W := fun W => by
    have := Bank.eq_bank (xs := botB q l) (ys := botB q l) (repV_len _) (repV_len _) W
    rw [this, decide_eq_true rfl]
  have HSM := hide (botL_small q l)
  have SE := hide (fun (W : World) (a' : Option Addr) (c' : Nat) (h1 : RRow 2 evV W a' (botL q l)) (h2 : RRow 2 evV W av (botL q l)) => SameEv.events_same a' av (botL q l) (botL q l).length c' cv' W rfl (by have := HSM.out; unfold maxLen; omega) h1 h2)
  have HBK := hide (show w2.heap[B]? = some (.cells (bankC (botB q l)) 32) from HF2.out.bank)
  have HLO := hide HF2.out.lo
  clear HF2 HRL
  generalize bankC (botB q l) = bb at *
  generalize botL q l = bl at *
  generalize botN q l = bn at *
  rw [HBE.out] at RN
  clear HBE
  go_wp2_with (fail)
  refine (RN.out _ HLO.out).mono ?_
  rintro e w3 ⟨⟨ae, ce, rfl, hrow3⟩, hb3⟩
  have hq3 := below_on hb3 (below_new w3 (.cells bb 32))
  have HLO3 := hide (below_on HLO.out hq3)
  have HBK3 := hide (blk_below HBK.out hq3)
  have HNB3 := hide (blk_new w3 (.cells bb 32))
  have HW3 := hide (HW.out.below hq3)
  have HR3 := hide (hrow3.below (below_new w3 (.cells bb 32)))
  clear hb3 hq3 hrow3 HLO HBK HW RN
  go_wp2_with ((with_reducible refine Bank.wpl_store_new 13 80 _ _ ?_ ?_ ?_ ?_ Bank.noBank_size HBZ.out HBO.out ?_); rfl; rfl; rfl; rfl)
  refine (As.same_is _ _ _ rfl (HG.out _ HLO3.out)).mono ?_
  rintro e w4 ⟨rfl, hb4⟩
  have HLO4 := hide (below_on HLO3.out hb4)
  have HBK4 := hide (blk_below HBK3.out hb4)
  have HNB4 := hide (blk_below HNB3.out hb4)
  have HW4 := hide (HW3.out.below hb4)
  have HR4 := hide (HR3.out.below hb4)
  clear hb4 HLO3 HBK3 HNB3 HW3 HR3
  go_wp2_with (first | ((with_reducible refine Bank.wpl_load 13 ?_ ?_ _ ?_ _ _ HNB4.out HBZ.out ?_); rfl; rfl; rfl) | ((with_reducible refine Bank.wpl_load 8 ?_ ?_ _ ?_ _ _ HBK4.out HBZ.out ?_); rfl; rfl; rfl))
  refine (SE.out _ ae ce HR4.out HW4.out).mono ?_
  rintro e w5 ⟨rfl, hb5⟩
  have HLO5 := hide (below_on HLO4.out hb5)
  clear hb5 HLO4 HBK4 HNB4 HW4 HR4
  go_wp2
  go_ret
  exact ⟨rfl, HLO5.out⟩
end Go.Proofs.YtbpgchmbmgfoaaaDoor.BootTells
