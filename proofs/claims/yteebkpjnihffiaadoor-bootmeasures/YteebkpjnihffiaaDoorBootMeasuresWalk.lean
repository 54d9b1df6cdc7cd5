/-
  The walk of stairlaw2.BootMeasures: it returns true, and memory that was there stays as it was.
-/
import Derived.Test.YteebkpjnihffiaaDoorBootLaw
import Derived.Test.YteebkpjnihffiaaDoorBootMeasMath
import Derived.Test.YteebkpjnihffiaaDoorEventLaw
import Derived.Test.YteebkpjnihffiaaDoorSign1
import Derived.Test.YteebkpjnihffiaaDoorBank4
import Derived.Deep.DeepCutAuto
import Derived.Deep.CutBlock
import Derived.Deep.QuietTactic
import Derived.BigQuiet
namespace Go.Proofs.YteebkpjnihffiaaDoor.BootMeasures
open Go.ChangeShapes Go.WideShapes Go.ChangeAt Go.RowKit
open Go.Proofs.YteebkpjnihffiaaDoor.M Go.Proofs.YteebkpjnihffiaaDoor.Boot Go.Proofs.YteebkpjnihffiaaDoor.Image Go.Proofs.YteebkpjnihffiaaDoor.Key Go.Proofs.YteebkpjnihffiaaDoor.Bank
set_option linter.unusedVariables false

theorem quiet_below (w : World) : ∀ n, Below w.heap.size w (w.drewN n)
  | 0 => Below.refl _ _
  | n + 1 => Below.drew (quiet_below w n)
def osB : ByteArray := { data := #[111, 115] }
def noB : ByteArray := { data := #[] }
def s1 (p a : Int) : Sg := ⟨osB, 1, noB, p, a⟩
def s2 : Sg := ⟨osB, 2, noB, 0, 0⟩
theorem img_os (v : Int) (h : v = 1 ∨ v = 2) : imgE osB v noB = 0 := by rcases h with rfl | rfl <;> decide +kernel
theorem sgn_os : sgnE 5 7 osB 1 noB = 0 := by rw [sgnE_ok (img_os 1 (Or.inl rfl)), sigC_ok rfl rfl (mea_is _ _ _)]
/-- Three images, the second of nobody: one is started, two are measured. -/
theorem fact3 {q p a : Int} (hq : inB q = true) (h : sldE q osB 1 noB p a = 0) : botE q [s1 p a, s2, s1 p a] = 0 ∧ (botL q [s1 p a, s2, s1 p a]).length = 2 ∧ botN q [s1 p a, s2, s1 p a] = 1 := by
  have hE : botE q [s1 p a, s2, s1 p a] = 0 := by
    have e1 : sgE (s1 p a) = 0 := img_os 1 (Or.inl rfl)
    have e2 : sgE s2 = 0 := img_os 2 (Or.inr rfl)
    rw [botE_go hq (by simp), botF_ok e1, botF_ok e2, botF_ok e1]
    rfl
  have h1 : sldG q (s1 p a) = 0 := h
  have h2 : ¬ sldG q s2 = 0 := sld_none
  refine ⟨hE, ?_, ?_⟩
  · rw [(bot_some hE).1, evL_ok 0 h1, evL_no 1 h2]; rfl
  · rw [(bot_some hE).2, stN_ok h1, stN_no h2]
theorem row3 (w : World) (p a : Int) (T : TypeId) : RRow 5 sgV (w.alloc (.cells #[.string { data := #[111, 115] }, .int .i64 1, .string { data := #[] }, .int .i64 p, .int .i64 a, .string { data := #[111, 115] }, .int .i64 2, .string { data := #[] }, .int .i64 0, .int .i64 0, .string { data := #[111, 115] }, .int .i64 1, .string { data := #[] }, .int .i64 p, .int .i64 a] T)) (some ⟨w.heap.size, 0, none⟩) [s1 p a, s2, s1 p a] := by
  refine Or.inr ⟨w.heap.size, 0, rfl, fun k x hx j v hv => ?_⟩
  rw [cell_of_row _ _ _ _ _ _ (blk_new w (.cells #[.string { data := #[111, 115] }, .int .i64 1, .string { data := #[] }, .int .i64 p, .int .i64 a, .string { data := #[111, 115] }, .int .i64 2, .string { data := #[] }, .int .i64 0, .int .i64 0, .string { data := #[111, 115] }, .int .i64 1, .string { data := #[] }, .int .i64 p, .int .i64 a] T))]
  match k, hx with
  | 0, hx =>
    simp at hx
    subst hx
    match j, hv with
    | 0, hv => simpa [sgV, s1, osB, noB] using hv
    | 1, hv => simpa [sgV, s1, osB, noB] using hv
    | 2, hv => simpa [sgV, s1, osB, noB] using hv
    | 3, hv => simpa [sgV, s1, osB, noB] using hv
    | 4, hv => simpa [sgV, s1, osB, noB] using hv
    | j + 5, hv => simp [sgV] at hv
  | 1, hx =>
    simp at hx
    subst hx
    match j, hv with
    | 0, hv => simpa [sgV, s2, osB, noB] using hv
    | 1, hv => simpa [sgV, s2, osB, noB] using hv
    | 2, hv => simpa [sgV, s2, osB, noB] using hv
    | 3, hv => simpa [sgV, s2, osB, noB] using hv
    | 4, hv => simpa [sgV, s2, osB, noB] using hv
    | j + 5, hv => simp [sgV] at hv
  | 2, hx =>
    simp at hx
    subst hx
    match j, hv with
    | 0, hv => simpa [sgV, s1, osB, noB] using hv
    | 1, hv => simpa [sgV, s1, osB, noB] using hv
    | 2, hv => simpa [sgV, s1, osB, noB] using hv
    | 3, hv => simpa [sgV, s1, osB, noB] using hv
    | 4, hv => simpa [sgV, s1, osB, noB] using hv
    | j + 5, hv => simp [sgV] at hv
  | k + 3, hx => simp at hx
theorem sz3 (p a : Int) : ∀ s ∈ [s1 p a, s2, s1 p a], szS s := by
  intro s hs
  simp at hs
  rcases hs with rfl | rfl | rfl <;> exact ⟨show osB.size ≤ 140737488351232 by decide, show noB.size ≤ 140737488351232 by decide⟩
theorem ev_cells {w : World} {b o : Nat} {r m : Int} (h : ∀ (j : Nat) (v : Value), (evV (r, m))[j]? = some v → w.cell? ⟨b, o + j, none⟩ = some v) : w.cell? ⟨b, o, none⟩ = some (.int .i64 r) ∧ w.cell? ⟨b, o + 1, none⟩ = some (.int .i64 m) := ⟨h 0 _ rfl, h 1 _ rfl⟩
theorem sg_cells {w : World} {b o : Nat} {s : Sg} (h : ∀ (j : Nat) (v : Value), (sgV s)[j]? = some v → w.cell? ⟨b, o + j, none⟩ = some v) :
    w.cell? ⟨b, o, none⟩ = some (.string s.nm) ∧ w.cell? ⟨b, o + 1, none⟩ = some (.int .i64 s.v) ∧ w.cell? ⟨b, o + 2, none⟩ = some (.string s.cd) ∧ w.cell? ⟨b, o + 3, none⟩ = some (.int .i64 s.p) ∧ w.cell? ⟨b, o + 4, none⟩ = some (.int .i64 s.a) := ⟨h 0 _ rfl, h 1 _ rfl, h 2 _ rfl, h 3 _ rfl, h 4 _ rfl⟩
/-- A bank in its block, events in a row, and all that was there. -/
structure Kept (w0 : World) (B : Nat) (d : Array Value) (ae : Option Addr) (es : List (Int × Int)) (W : World) : Prop where
  lo : Below w0.heap.size w0 W
  b : W.heap[B]? = some (.cells d 24)
  ev : RRow 2 evV W ae es
theorem Kept.below {w0 W W' : World} {B : Nat} {d : Array Value} {ae : Option Addr} {es : List (Int × Int)} (h : Kept w0 B d ae es W) (hb : Below W.heap.size W W') : Kept w0 B d ae es W' := ⟨below_on h.lo hb, blk_below h.b hb, h.ev.below hb⟩
theorem errV_no {T : TypeId} {k : Int} (h : ¬ k = 0) : errV T k = .iface T (.int .i64 k) := by unfold errV; rw [if_neg h]
theorem rep_small (q : Int) (l : List Sg) : (bankC (botB q l)).size = 8 := by rw [bankC_size]; exact repV_len _

set_option maxRecDepth 20000 in
set_option maxHeartbeats 2000000 in
theorem walk (RL : RunLaw) (EL : Event.ReplayLaw) (q : Int) (a : Option Addr) (l : List Sg) (n cap : Nat) (ct : Int) (w : World) (hn : n = l.length) (hm : n ≤ maxLen) (hcap : n ≤ cap) (hr : RRow 5 sgV w a l) (hs : ∀ s ∈ l, szS s) (hh : Has w) :
    Calls Tryd.prog 3 #[.int .i64 q, .slice a n cap, .int .i64 ct] w fun e w' => e = .returned (.bool true) ∧ Below w.heap.size w w' := by
  have HH := hide (fun (W : World) (h : Below w.heap.size w W) => hh.below h)
  have HRL := hide RL
  have HEL := hide EL
  have HR := hide hr
  have HS := hide hs
  have HN := hide hn
  have HM := hide hm
  have hm' : n ≤ 9223372036854775807 := by unfold maxLen at hm; omega
  have RN := hide (RL q a l n cap w hn hm hr hs hh)
  have M1 := hide (fun (W : World) (h : Has W) => Sign.make_any 5 7 1 osB noB W (by decide) (by decide) h)
  rw [mkS_ok sgn_os, sgn_os, errV_zero] at M1
  have P5 := hide (fun (W : World) => public_ok 5 W rfl)
  have HI5 := hide (pwZ_in 5)
  have HL5 := hide (sld_own sgn_os)
  unfold sgnC imgC at M1
  generalize sigP 5 7 (meaV osB 1 noB) = p1 at *
  generalize sigA 5 7 (meaV osB 1 noB) = s1' at *
  generalize pwZ 64 5 = q5 at *
  have R3 := hide (fun (W : World) (h : Has (W.alloc (.cells #[.string { data := #[111, 115] }, .int .i64 1, .string { data := #[] }, .int .i64 p1, .int .i64 s1', .string { data := #[111, 115] }, .int .i64 2, .string { data := #[] }, .int .i64 0, .int .i64 0, .string { data := #[111, 115] }, .int .i64 1, .string { data := #[] }, .int .i64 p1, .int .i64 s1'] 35))) => RL q5 (some ⟨W.heap.size, 0, none⟩) [s1 p1 s1', s2, s1 p1 s1'] 3 3 (W.alloc (.cells #[.string { data := #[111, 115] }, .int .i64 1, .string { data := #[] }, .int .i64 p1, .int .i64 s1', .string { data := #[111, 115] }, .int .i64 2, .string { data := #[] }, .int .i64 0, .int .i64 0, .string { data := #[111, 115] }, .int .i64 1, .string { data := #[] }, .int .i64 p1, .int .i64 s1'] 35)) rfl (by unfold maxLen; omega) (row3 W p1 s1' _) (sz3 p1 s1') h)
  obtain ⟨f1, f2, f3⟩ := fact3 HI5.out HL5.out
  rw [f1, f2, f3, errV_zero] at R3
  have HZ3 := hide (rep_small q5 [s1 p1 s1', s2, s1 p1 s1'])
  have HO3 := hide (bankC_one (botB q5 [s1 p1 s1', s2, s1 p1 s1']))
  generalize bankC (botB q5 [s1 p1 s1', s2, s1 p1 s1']) = b3 at *
  have HZ := hide (rep_small q l)
  have HO := hide (bankC_one (botB q l))
  unfold osB noB at M1
  clear hh RL EL hr hs hn hm f1 f2 f3 HI5 HL5
  go_enter Tryd.func3, Tryd.ntmps3
  go_wp2_with (fail)
  refine RN.out.mono ?_
  rintro e w1 ⟨⟨ae, ce, rfl, hrow1⟩, hb1⟩
  have HK1 : Hid (Kept w w1.heap.size (bankC (botB q l)) ae (botL q l) (w1.alloc (.cells (bankC (botB q l)) 24))) := ⟨below_on hb1 (below_new _ _), blk_new _ _, hrow1.below (below_new _ _)⟩
  clear hb1 hrow1 RN
  go_upto_region 2 with ((with_reducible refine wpl_store_new 7 33 _ _ ?_ ?_ ?_ ?_ noBank_size HZ.out HO.out ?_); rfl; rfl; rfl; rfl)
  generalize w1.alloc (.cells (bankC (botB q l)) 24) = wa at *
  generalize w1.heap.size = B at *
  go_wp2_with (fail)
  refine (M1.out _ (HH.out _ HK1.out.lo)).mono ?_
  rintro e w2 ⟨rfl, hb2⟩
  have HK2 := hide (HK1.out.below (below_on hb2 (below_new w2 (.cells #[.string { data := #[111, 115] }, .int .i64 1, .string { data := #[] }, .int .i64 p1, .int .i64 s1'] 35))))
  clear hb2 HK1 M1
  go_wp2_with (fail)
  refine (P5.out _).mono ?_
  rintro e w2' ⟨rfl, hw⟩
  rw [hw]
  clear hw P5
  have R3' := hide (R3.out (w2.alloc (.cells #[.string { data := #[111, 115] }, .int .i64 1, .string { data := #[] }, .int .i64 p1, .int .i64 s1'] 35)) (HH.out _ (below_on HK2.out.lo (below_new _ _))))
  rw [World.size_alloc] at R3'
  go_wp2_with (fail)
  refine R3'.out.mono ?_
  rintro e w3 ⟨⟨a3, c3, rfl, _⟩, hb3⟩
  have HK3 := hide (HK2.out.below (below_on (below_on (below_new _ _) hb3) (below_new w3 (.cells b3 24))))
  clear hb3 HK2 R3 R3'
  go_upto_region 7 with ((with_reducible refine wpl_store_new 15 54 _ _ ?_ ?_ ?_ ?_ noBank_size HZ3.out HO3.out ?_); rfl; rfl; rfl; rfl)
  generalize w3.alloc (.cells b3 24) = wb at *
  by_cases hE : botE q l = 0
  · obtain ⟨g1, g2, g3⟩ := botE_zero hE
    have H8 := hide g2
    have HA := hide (botF_all g3)
    have HET := hide (fun c => botE_take c hE)
    have EB := hide (show botB q l = repV (evL q 0 l) by unfold botB; rw [(bot_some hE).1])
    rw [(bot_some hE).1, EB.out] at HK3
    rw [EB.out] at HZ HO
    rw [(bot_some hE).1, (bot_some hE).2, EB.out]
    obtain ⟨h1, h2, h3, h4⟩ := evL_many (q := q) l 0
    have HE0 := hide (evL_ok_all (q := q) (l := l) (by omega))
    have HEL8 := hide (evL_len (q := q) l 0)
    have GET := hide (fun j => evL_get (q := q) l 0 j)
    have TK := hide (fun c => evL_take (q := q) l 0 c)
    have ST := hide (fun c => stN_take (q := q) l c)
    have REG := hide (fun t e => evL_reg (q := q) l t e)
    rw [hE, errV_zero]
    generalize evL q 0 l = es at *
    generalize hst : stN q l = st at *
    have R9 := hide (fun (W : World) (h : RRow 2 evV W ae es) => HEL.out ae es es.length ce W rfl (by have := H8.out; have := HEL8.out; unfold maxLen; omega) h)
    rw [HE0.out, show repP es = repV es from if_pos HE0.out, errV_zero] at R9
    have RG := hide (fun (j : Nat) (e : Int × Int) (h : es[j]? = some e) => rep_get (es := es) (by have := H8.out; have := HEL8.out; omega) REG.out h)
    have RGT := hide (fun (c j : Nat) (e : Int × Int) (h : (es.take c)[j]? = some e) => rep_get (es := es.take c) (by have := H8.out; have := HEL8.out; rw [List.length_take]; omega) (fun t e h => by
      rw [List.getElem?_take] at h
      split at h
      · exact REG.out t e h
      · cases h) h)
    have HZT := hide (fun c => show (bankC (repV (es.take c))).size = 8 by rw [bankC_size]; exact repV_len _)
    have HRLEN := hide (repV_len es)
    have EQ : ∀ W : World, (Op.equalIn 10000 24 (.agg (bankC (repV es))) (.agg (bankC (repV es)))).run Tryd.prog W = .ok true W := fun W => by
      have := eq_bank (xs := repV es) (ys := repV es) (repV_len _) (repV_len _) W
      rw [this, decide_eq_true rfl]
    clear hE g1 g2 g3 EB
    generalize repV es = rb at *
    go_wp2_with (fail)
    refine (R9.out _ HK3.out.ev).mono ?_
    rintro e w4 ⟨rfl, hb4⟩
    have HK4 := hide (HK3.out.below (below_on hb4 (below_new w4 (.cells (bankC rb) 24))))
    have HC4 := hide (blk_new w4 (.cells (bankC rb) 24))
    clear hb4 HK3 R9
    go_upto_region 10 with ((with_reducible refine wpl_store_new 19 82 _ _ ?_ ?_ ?_ ?_ noBank_size HZ.out HO.out ?_); rfl; rfl; rfl; rfl)
    generalize w4.alloc (.cells (bankC rb) 24) = wd at *
    generalize w4.heap.size = C at *
    have hn8 : n ≤ 8 := by have := H8.out; have := HN.out; omega
    have hq := HN.out
    have H4 := hide (fun (h : st < n) => h4 (by omega))
    have hst1 : ¬ (n : Int) < st := by omega
    have hst8 : (st : Int) ≤ 8 := by omega
    have hel8 : es.length ≤ 8 := by have := HEL8.out; have := H8.out; omega
    have HSL := hide (show st ≤ n by omega)
    generalize hel : es.length = el at *
    have HEL0 := hide hel
    have hst2 : ¬ (el : Int) < st := by omega
    have hst3 : ¬ (st : Int) + 1 < el := by omega
    have hst5 : ¬ (st : Int) + 1 < st := by omega
    clear hq h1 h2 h3 h4 hel
    go_cut [122] from 84 to 122 (fun sx w' => sx = .bool false ∧ w' = wd)
    case first =>
      by_cases hlt : st < n
      · have hltz : (st : Int) < n := by omega
        obtain rfl : el = st + 1 := H4.out hlt
        go_wp2_with (first | ((with_reducible refine wpl_load 19 ?_ ?_ _ ?_ _ _ HC4.out HZ.out ?_); rfl; rfl; rfl) | ((with_reducible refine wpl_load 7 ?_ ?_ _ ?_ _ _ HK4.out.b HZ.out ?_); rfl; rfl; rfl))
        go_meet
        exact ⟨rfl, rfl⟩
      · have hltz : ¬ (st : Int) < n := by omega
        go_wp2_with (first | ((with_reducible refine wpl_load 19 ?_ ?_ _ ?_ _ _ HC4.out HZ.out ?_); rfl; rfl; rfl) | ((with_reducible refine wpl_load 7 ?_ ?_ _ ?_ _ _ HK4.out.b HZ.out ?_); rfl; rfl; rfl))
        go_meet
        exact ⟨rfl, rfl⟩
    case rest =>
    obtain ⟨rfl, hwd⟩ := hcut
    rw [hwd]
    clear hwd HC4 EQ
    go_upto_block 0 with (fail)
    go_cut [21, 22, 23, 24] from 123 to 171 (fun _ _ _ _ w' => ∃ w5 : World, w' = w5 ∧ Hid (Kept w B (bankC rb) ae es w5))
    case first =>
      go_wp2
      go_loopw [21, 22, 23, 24] (fun s21 _ _ _ wr => ∃ k : Nat, k ≤ el ∧ s21 = .int .i64 k ∧ Hid (Kept w B (bankC rb) ae es wr)) (fun s21 _ _ _ _ => el - (intOf s21).toNat)
      case atStart => exact ⟨0, by omega, rfl, HK4.out⟩
      case round =>
        obtain ⟨k, hk, rfl, HK⟩ := hrel
        clear HK4
        by_cases hlt : k < el
        · have hlz : (k : Int) < el := by omega
          obtain ⟨s, g1, g2, g3⟩ := GET.out k (by have := HEL0.out; omega)
          have HSZ := hide (HS.out s (List.mem_of_getElem? g1))
          have hse : imgE s.nm s.v s.cd = 0 := HA.out s (List.mem_of_getElem? g1)
          have hkn : k < n := by have := (List.getElem?_eq_some_iff.1 g1).1; have := HN.out; omega
          have hknz : (k : Int) < n := by omega
          have HC := hide (show ∀ W, Below w.heap.size w W → ∃ b off, a = some ⟨b, off, none⟩ ∧ W.cell? ⟨b, off + k * 5, none⟩ = some (.string s.nm) ∧ W.cell? ⟨b, off + k * 5 + 1, none⟩ = some (.int .i64 s.v) ∧ W.cell? ⟨b, off + k * 5 + 2, none⟩ = some (.string s.cd) ∧ W.cell? ⟨b, off + k * 5 + 3, none⟩ = some (.int .i64 s.p) ∧ W.cell? ⟨b, off + k * 5 + 4, none⟩ = some (.int .i64 s.a) from fun W hb => by
            obtain ⟨b, off, e, hc⟩ := (HR.out.below hb).at g1
            exact ⟨b, off, e, sg_cells hc⟩)
          have HEV := hide (show ∀ W, Kept w B (bankC rb) ae es W → ∃ b off, ae = some ⟨b, off, none⟩ ∧ W.cell? ⟨b, off + k * 2, none⟩ = some (.int .i64 k) ∧ W.cell? ⟨b, off + k * 2 + 1, none⟩ = some (.int .i64 (meaV s.nm s.v s.cd)) from fun W hk => by
            rw [Nat.zero_add] at g2
            obtain ⟨b, off, e, hc⟩ := hk.ev.at g2
            exact ⟨b, off, e, ev_cells hc⟩)
          have MS := hide (fun (W : World) (h : Has W) => measure_any s.nm s.cd s.v W HSZ.out.1 HSZ.out.2 h)
          rw [hse, errV_zero] at MS
          have CK := hide (fun (W : World) (h : Has W) => Sign.check_any q s.v s.p s.a s.nm s.cd W HSZ.out.1 HSZ.out.2 h)
          have HI := hide (show sldE q s.nm s.v s.cd s.p s.a = 0 ↔ k < st from g3)
          unfold imgC at MS
          unfold sgnC at CK
          clear g1 g2 g3 hse
          generalize meaV s.nm s.v s.cd = m at *
          generalize sldE q s.nm s.v s.cd s.p s.a = se at *
          obtain ⟨b, off, rfl, x0, x1, x2, x3, x4⟩ := HC.out _ HK.out.lo
          go_wp2_with (fail)
          refine (MS.out _ (HH.out _ HK.out.lo)).mono ?_
          rintro e w5 ⟨rfl, hb5⟩
          have HK5 := hide (HK.out.below hb5)
          clear hb5 HK x0 x1 x2 x3 x4 MS
          obtain ⟨b', off', e', x0, x1, x2, x3, x4⟩ := HC.out _ HK5.out.lo
          cases e'
          go_wp2_with (fail)
          refine (CK.out _ (HH.out _ HK5.out.lo)).mono ?_
          rintro e w6 ⟨rfl, hb6⟩
          have HK6 := hide (HK5.out.below hb6)
          clear hb6 HK5 x0 x1 x2 x3 x4 CK HC
          obtain ⟨be, oe, rfl, y0, y1⟩ := HEV.out _ HK6.out
          clear HEV
          by_cases hS : se = 0
          · have hki := HI.out.1 hS
            have hkz : (k : Int) < st := by omega
            rw [hS, errV_zero]
            clear hS HI
            go_wp2
            go_roundw
            case rel => exact ⟨k + 1, by omega, by go_num, HK6.out⟩
            case measure => simp [intOf]; omega
          · have hkz : ¬ (k : Int) < st := fun h => hS (HI.out.2 (by omega))
            have HX := hide (errV_no (T := 63) hS)
            rw [HX.out]
            clear hS HI HX
            go_wp2
            go_roundw
            case rel => exact ⟨k + 1, by omega, by go_num, HK6.out⟩
            case measure => simp [intOf]; omega
        · have hlz : ¬ (k : Int) < el := by omega
          go_wp2
          go_meet
          exact ⟨_, rfl, HK.out⟩
    case rest =>
    obtain ⟨w5, hw5, HK5⟩ := hcut
    rw [hw5]
    clear hw5 HK4
    by_cases hi : 0 ≤ ct ∧ ct ≤ (n : Int)
    · obtain ⟨c, rfl⟩ : ∃ c : Nat, ct = c := ⟨ct.toNat, by omega⟩
      have hcn : c ≤ n := by omega
      have hcz : ¬ (n : Int) < c := by omega
      have hccap : (c : Int) ≤ cap := by omega
      clear hi
      have hlt : (l.take c).length = c := by rw [List.length_take]; have := HN.out; omega
      have R6 := hide (HRL.out q a (l.take c) c cap w5 hlt.symm (by have := HM.out; omega) ((HR.out.below HK5.out.lo).take c) (fun s hs => HS.out s (List.mem_of_mem_take hs)) (HH.out _ HK5.out.lo))
      have e1 := HET.out c
      have EB2 := hide (show botB q (l.take c) = repV (es.take c) by unfold botB; rw [(bot_some e1).1, TK.out c])
      have hk2 := ST.out c
      rw [EB2.out, (bot_some e1).1, (bot_some e1).2, TK.out c, e1, errV_zero] at R6
      have HO6 := hide (bankC_one (repV (es.take c)))
      have HZ6 := hide (HZT.out c)
      have htl : (es.take c).length ≤ el := by rw [List.length_take, HEL0.out]; omega
      generalize stN q (l.take c) = st2 at *
      have hk2z : ¬ (st : Int) < st2 := by omega
      clear e1 EB2 hlt
      go_wp2_with (fail)
      refine R6.out.mono ?_
      rintro e w6 ⟨⟨af, cf, rfl, hrow6⟩, hb6⟩
      have HK6 := hide (HK5.out.below (below_on hb6 (below_new w6 (.cells (bankC (repV (es.take c))) 24))))
      have HD6 := hide (blk_new w6 (.cells (bankC (repV (es.take c))) 24))
      have HF6 := hide (hrow6.below (below_new w6 (.cells (bankC (repV (es.take c))) 24)))
      clear hb6 hrow6 HK5 R6
      generalize hfl : (es.take c).length = fl at *
      have HFL := hide hfl
      clear hfl
      have htz : ¬ (el : Int) < fl := by omega
      go_upto_region 24 with ((with_reducible refine wpl_store_new 25 186 _ _ ?_ ?_ ?_ ?_ noBank_size HZ6.out HO6.out ?_); rfl; rfl; rfl; rfl)
      generalize w6.alloc (.cells (bankC (repV (es.take c))) 24) = wf at *
      generalize w6.heap.size = D at *
      go_wp2
      go_loopw [28] (fun s28 wr => ∃ k : Nat, k ≤ fl ∧ s28 = .int .i64 k ∧ Hid (Below wf.heap.size wf wr)) (fun s28 _ => fl - (intOf s28).toNat)
      case atStart => exact ⟨0, by omega, rfl, Below.refl _ _⟩
      case round =>
        obtain ⟨k, hk, rfl, HBR⟩ := hrel
        have HKR := hide (HK6.out.below HBR.out)
        by_cases hlt : k < fl
        · have hlz : (k : Int) < fl := by omega
          have hez : (k : Int) < el := by omega
          have hk8 : (k : Int) < 8 := by omega
          obtain ⟨⟨r, m⟩, hx⟩ : ∃ e, (es.take c)[k]? = some e := ⟨(es.take c)[k]'(by have := HFL.out; omega), List.getElem?_eq_getElem (by have := HFL.out; omega)⟩
          have hy : es[k]? = some (r, m) := by
            rw [List.getElem?_take] at hx
            split at hx
            · exact hx
            · cases hx
          have hd : wr.cell? ⟨D, k, none⟩ = some (.int .i64 (stp 7919 0 m)) := bank_cell (blk_below HD6.out HBR.out) (RGT.out c k (r, m) hx)
          have hb : wr.cell? ⟨B, k, none⟩ = some (.int .i64 (stp 7919 0 m)) := bank_cell HKR.out.b (RG.out k (r, m) hy)
          obtain ⟨b1, o1, rfl, hc1⟩ := (HF6.out.below HBR.out).at hx
          obtain ⟨b2, o2, rfl, hc2⟩ := HKR.out.ev.at hy
          obtain ⟨x0, x1⟩ := ev_cells hc1
          obtain ⟨y0, y1⟩ := ev_cells hc2
          generalize stp 7919 0 m = sv at *
          clear hx hy hc1 hc2
          go_wp2_with (fail)
          go_quiet (fail)
          go_wp2
          go_roundw
          case rel => exact ⟨k + 1, by omega, by go_num, below_on HBR.out (quiet_below _ _)⟩
          case measure => simp [intOf]; omega
        · have hlz : ¬ (k : Int) < fl := by omega
          go_wp2
          go_ret
          exact ⟨rfl, HKR.out.lo⟩
    · by_cases h0 : ct < 0
      · clear hi
        go_wp2
        go_ret
        exact ⟨rfl, HK5.out.lo⟩
      · have h1 : (n : Int) < ct := by omega
        clear hi
        go_wp2
        go_ret
        exact ⟨rfl, HK5.out.lo⟩
  · have HX := hide (errV_no (T := 63) hE)
    rw [HX.out]
    clear hE HX
    go_wp2
    go_ret
    exact ⟨rfl, HK3.out.lo⟩
end Go.Proofs.YteebkpjnihffiaaDoor.BootMeasures
