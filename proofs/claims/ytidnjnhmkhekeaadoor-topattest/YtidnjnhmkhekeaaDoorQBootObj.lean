/-
  Contract of package boot's Run over this translation: what it returns, that its events lie in new memory, and that memory that was there stays as it was.
-/
import Derived.Test.YtidnjnhmkhekeaaDoorQBootPart
import Derived.Test.YtidnjnhmkhekeaaDoorPack1
import Derived.Test.YtidnjnhmkhekeaaDoorPack2
import Derived.Deep.RegionLaw
import Derived.Deep.AppendLies
import Derived.Deep.DeepCutAuto
import Derived.Deep.CutBlock
namespace Go.Proofs.YtidnjnhmkhekeaaDoor.Boot
open Go.ChangeShapes Go.WideShapes Go.ChangeAt Go.RowKit
open Go.Proofs.YtidnjnhmkhekeaaDoor.M
set_option linter.unusedVariables false

theorem ev_info : (Tryd.prog.info? 93).map (fun i => (i.zero, i.size, i.bytes)) = some (some (.agg #[.int .i64 0, .int .i64 0]), 2, 16) := by kernel_rfl
theorem results_cttt {fn : Func} {p x y z : Tmp} {ty : TypeId} (h : fn.results = #[.cell p ty, .tmp x, .tmp y, .tmp z]) (tmps : Array Value) (P : Program) (w : World) :
    (results fn tmps).run P w = ((asAddr (tmps.getD p undef)).run P w).andThen fun a w1 => ((loadVar ty a).run P w1).andThen fun v w2 => .ok (.tuple #[v, tmps.getD x undef, tmps.getD y undef, tmps.getD z undef]) w2 := by
  simp only [results, h]
  simp [Sem.run_bind, Result.andThen]
theorem results_run {fn : Func} {p x y z : Tmp} (h : fn.results = #[.cell p 38, .tmp x, .tmp y, .tmp z]) (tmps : Array Value) (w : World) (b : Nat) (c : Array Value) (vx vy vz : Value) (hp : tmps.getD p undef = .pointer (some ⟨b, 0, none⟩)) (hx : tmps.getD x undef = vx) (hy : tmps.getD y undef = vy) (hz : tmps.getD z undef = vz)
    (hg : w.heap[b]? = some (.cells c 38)) (hs : c.size = 8) : (results fn tmps).run Tryd.prog w = .ok (.tuple #[.agg c, vx, vy, vz]) w := by
  rw [results_cttt h, hp, hx, hy, hz]
  simp [asAddr, Bank.load_bank hg hs, Result.andThen]
theorem eight_of {r : List Int} (h : r.length = 8) : ∃ a0 a1 a2 a3 a4 a5 a6 a7 : Int, bankC r = #[.int .i64 a0, .int .i64 a1, .int .i64 a2, .int .i64 a3, .int .i64 a4, .int .i64 a5, .int .i64 a6, .int .i64 a7] := by
  match r, h with
  | [a0, a1, a2, a3, a4, a5, a6, a7], _ => exact ⟨a0, a1, a2, a3, a4, a5, a6, a7, rfl⟩
theorem oct_cells {w : World} {b : Nat} {x0 x1 x2 x3 x4 x5 x6 x7 : Value} {t : TypeId} {fr : Nat × Nat} (h : w.heap[b]? = some (.cells #[x0, x1, x2, x3, x4, x5, x6, x7] t fr)) :
    w.cell? ⟨b, 0, none⟩ = some x0 ∧ w.cell? ⟨b, 1, none⟩ = some x1 ∧ w.cell? ⟨b, 2, none⟩ = some x2 ∧ w.cell? ⟨b, 3, none⟩ = some x3 ∧ w.cell? ⟨b, 4, none⟩ = some x4 ∧ w.cell? ⟨b, 5, none⟩ = some x5 ∧ w.cell? ⟨b, 6, none⟩ = some x6 ∧ w.cell? ⟨b, 7, none⟩ = some x7 := by
  refine ⟨?_, ?_, ?_, ?_, ?_, ?_, ?_, ?_⟩ <;> rw [cell_of_row w b _ _ t fr h] <;> rfl
theorem oct_free {w : World} {b : Nat} {c : Array Value} {t : TypeId} (h : w.heap[b]? = some (.cells c t)) :
    w.frozen? ⟨b, 0, none⟩ = false ∧ w.frozen? ⟨b, 1, none⟩ = false ∧ w.frozen? ⟨b, 2, none⟩ = false ∧ w.frozen? ⟨b, 3, none⟩ = false ∧ w.frozen? ⟨b, 4, none⟩ = false ∧ w.frozen? ⟨b, 5, none⟩ = false ∧ w.frozen? ⟨b, 6, none⟩ = false ∧ w.frozen? ⟨b, 7, none⟩ = false :=
  ⟨frozen_of_row w b 0 _ _ h, frozen_of_row w b 1 _ _ h, frozen_of_row w b 2 _ _ h, frozen_of_row w b 3 _ _ h, frozen_of_row w b 4 _ _ h, frozen_of_row w b 5 _ _ h, frozen_of_row w b 6 _ _ h, frozen_of_row w b 7 _ _ h⟩
theorem set_row {w : World} {b i : Nat} {c d d' : Array Value} {t : TypeId} {fr : Nat × Nat} {x : Value} (hg : w.heap[b]? = some (.cells c t fr)) (h : d.setIfInBounds i x = d') : (w.setRow b d).setCell ⟨b, i, none⟩ x = w.setRow b d' := by
  rw [setCell_eq_setRow _ b i _ _ _ x (setRow_heap w b _ d t fr hg), setRow_setRow, h]
theorem oct_set {w : World} {b : Nat} {a0 a1 a2 a3 a4 a5 a6 a7 x0 x1 x2 x3 x4 x5 x6 x7 : Value} {t : TypeId} {fr : Nat × Nat} (hg : w.heap[b]? = some (.cells #[a0, a1, a2, a3, a4, a5, a6, a7] t fr)) :
    (((((((w.setCell ⟨b, 0, none⟩ x0).setCell ⟨b, 1, none⟩ x1).setCell ⟨b, 2, none⟩ x2).setCell ⟨b, 3, none⟩ x3).setCell ⟨b, 4, none⟩ x4).setCell ⟨b, 5, none⟩ x5).setCell ⟨b, 6, none⟩ x6).setCell ⟨b, 7, none⟩ x7 = w.setRow b #[x0, x1, x2, x3, x4, x5, x6, x7] := by
  have h0 : w.setCell ⟨b, 0, none⟩ x0 = w.setRow b #[x0, a1, a2, a3, a4, a5, a6, a7] := setCell_eq_setRow w b 0 _ _ _ x0 hg
  have h1 : (w.setRow b #[x0, a1, a2, a3, a4, a5, a6, a7]).setCell ⟨b, 1, none⟩ x1 = w.setRow b #[x0, x1, a2, a3, a4, a5, a6, a7] := set_row hg rfl
  have h2 : (w.setRow b #[x0, x1, a2, a3, a4, a5, a6, a7]).setCell ⟨b, 2, none⟩ x2 = w.setRow b #[x0, x1, x2, a3, a4, a5, a6, a7] := set_row hg rfl
  have h3 : (w.setRow b #[x0, x1, x2, a3, a4, a5, a6, a7]).setCell ⟨b, 3, none⟩ x3 = w.setRow b #[x0, x1, x2, x3, a4, a5, a6, a7] := set_row hg rfl
  have h4 : (w.setRow b #[x0, x1, x2, x3, a4, a5, a6, a7]).setCell ⟨b, 4, none⟩ x4 = w.setRow b #[x0, x1, x2, x3, x4, a5, a6, a7] := set_row hg rfl
  have h5 : (w.setRow b #[x0, x1, x2, x3, x4, a5, a6, a7]).setCell ⟨b, 5, none⟩ x5 = w.setRow b #[x0, x1, x2, x3, x4, x5, a6, a7] := set_row hg rfl
  have h6 : (w.setRow b #[x0, x1, x2, x3, x4, x5, a6, a7]).setCell ⟨b, 6, none⟩ x6 = w.setRow b #[x0, x1, x2, x3, x4, x5, x6, a7] := set_row hg rfl
  have h7 : (w.setRow b #[x0, x1, x2, x3, x4, x5, x6, a7]).setCell ⟨b, 7, none⟩ x7 = w.setRow b #[x0, x1, x2, x3, x4, x5, x6, x7] := set_row hg rfl
  rw [h0, h1, h2, h3, h4, h5, h6, h7]

/-- Behind some images, all right and started: the events, the bank, where the answer will lie, what was there. -/
structure Far (w0 : World) (B R : Nat) (es : List (Int × Int)) (v : Value) (W : World) : Prop where
  own : OwnR 2 evV W (B + 1) 93 v es
  bank : W.heap[B]? = some (.cells (bankC (repV es)) 38)
  res : W.heap[R]? = some (.cells #[.int .i64 0, .int .i64 0, .int .i64 0, .int .i64 0, .int .i64 0, .int .i64 0, .int .i64 0, .int .i64 0] 38)
  lo : Below w0.heap.size w0 W
  hB : w0.heap.size ≤ R ∧ R < B
section Far
variable {w0 W W' w4 : World} {B R k g c3 : Nat} {es : List (Int × Int)} {e : Int × Int} {v : Value} {o : Obj}
theorem Far.below (h : Far w0 B R es v W) (hb : Below W.heap.size W W') : Far w0 B R es v W' := ⟨h.own.below hb, blk_below h.bank hb, blk_below h.res hb, below_on h.lo hb, h.hB⟩
theorem Far.drew (h : Far w0 B R es v W) : Far w0 B R es v W.drew := h.below (Below.drew (Below.refl _ _))
theorem Far.lt (h : Far w0 B R es v W) : ∀ j, v.ownBlock = some j → j < W.heap.size := fun j hj => (World.ownsRow.lt h.own j hj).2
theorem own_only {n : Nat} {α : Type} {cv : α → List Value} {S : Nat → Prop} {w w1 : World} {base : Nat} {t : TypeId} {v : Value} {xs : List α} (h : OwnR n cv w base t v xs) (ho : Only S w w1) (hn : ∀ k, v.ownBlock = some k → ¬ S k) : OwnR n cv w1 base t v xs := by
  refine ⟨h.1, ?_⟩
  rcases h.2 with h2 | ⟨r, cap, cur, e1, e2, e3, e4⟩
  · exact Or.inl h2
  · exact Or.inr ⟨r, cap, cur, e1, e2, ho.heap e3 (hn r (by rw [e1]; rfl)), e4⟩
/-- A block that is neither the bank's nor the events' is as it was behind the next event. -/
theorem Far.keep (h : Far w0 B R es v W) (hg : (W.alloc o).grownBy w4 v.ownBlock) {x : Nat} {q : Obj} (hx : W.heap[x]? = some q) (hn : v.ownBlock ≠ some x) : w4.heap[x]? = some q :=
  (hg.block x (by have := blk_lt hx; simp; omega) (fun e => hn e.symm)).trans (blk_keep hx o)
theorem Far.next (h : Far w0 B R es v W) (hg : (W.alloc o).grownBy w4 v.ownBlock)
    (ho : w4.ownsRow (B + 1) 93 2 (.slice (some ⟨g, 0, none⟩) (es.length + 1) c3) (es.length + 1) (es.flatMap evV ++ evV e)) :
    Far w0 B R (es ++ [e]) (.slice (some ⟨g, 0, none⟩) (es.length + 1) c3) (w4.setRow B (bankC (repV (es ++ [e])))) := by
  have hn : ∀ x, x ≤ B → v.ownBlock ≠ some x := fun x hx e => by have := h.own.block x e; omega
  have hb4 := h.keep hg h.bank (hn B (Nat.le_refl _))
  have hr4 := h.keep hg h.res (hn R (by have := h.hB; omega))
  have o2 : Only (fun j => B ≤ j) W w4 := ((Only.refl (fun j => B ≤ j) W).alloc o).grown hg (fun j hj => Or.inl (by have := h.own.block j hj; omega))
  have ho' : OwnR 2 evV w4 (B + 1) 93 (.slice (some ⟨g, 0, none⟩) (es.length + 1) c3) (es ++ [e]) := by
    unfold OwnR
    rw [List.length_append, List.flatMap_append, List.flatMap_singleton]
    exact ho
  refine ⟨own_only ho' ((Only.refl (fun j => j = B) w4).setRow (b := B) rfl _) (fun j hj e => by have := ho'.block j hj; omega), setRow_heap _ _ _ _ _ _ hb4, (setRow_other _ _ _ _ (by have := h.hB; omega)).trans hr4, ?_, h.hB⟩
  exact h.lo.trans ((o2.setRow (b := B) (Nat.le_refl B) _).below h.lo.size (fun j hj => by have := h.hB; omega))
/-- What is answered at the end. -/
theorem Far.ret (h : Far w0 B R es v W) : ∃ ae ce, v = .slice ae es.length ce ∧ RRow 2 evV (W.setRow R (bankC (repV es))) ae es ∧ (∀ k, ae.map (·.block) = some k → w0.heap.size ≤ k) := by
  obtain ⟨ae, ce, hv, _, hr⟩ := (own_only h.own ((Only.refl (fun j => j = R) W).setRow (b := R) rfl (bankC (repV es))) (fun j hj e => by have := h.own.block j hj; have := h.hB; omega)).row evV_len
  refine ⟨ae, ce, hv, hr, fun k hk => ?_⟩
  cases ae with
  | none => cases hk
  | some a =>
    have := h.own.block k (by rw [hv]; exact hk)
    have := h.hB
    omega
end Far
theorem lay_two (w : World) (c d z y : Array Value) : Below w.heap.size w ((((w.alloc (.cells z 38)).alloc (.cells y 93)).setRow w.heap.size c).setRow (w.heap.size + 1) d) ∧
    ((((w.alloc (.cells z 38)).alloc (.cells y 93)).setRow w.heap.size c).setRow (w.heap.size + 1) d).heap[w.heap.size]? = some (.cells c 38) ∧
    ((((w.alloc (.cells z 38)).alloc (.cells y 93)).setRow w.heap.size c).setRow (w.heap.size + 1) d).heap[w.heap.size + 1]? = some (.cells d 93) ∧
    ((w.alloc (.cells z 38)).alloc (.cells y 93)).heap[w.heap.size]? = some (.cells z 38) ∧
    (((w.alloc (.cells z 38)).alloc (.cells y 93)).setRow w.heap.size c).heap[w.heap.size + 1]? = some (.cells y 93) := by
  have h1 : ((w.alloc (.cells z 38)).alloc (.cells y 93)).heap[w.heap.size]? = some (.cells z 38) := blk_keep (blk_new w _) _
  have h2 : ((w.alloc (.cells z 38)).alloc (.cells y 93)).heap[w.heap.size + 1]? = some (.cells y 93) := blk_at _ (size_one ..)
  have h3 := (setRow_other ((w.alloc (.cells z 38)).alloc (.cells y 93)) w.heap.size (w.heap.size + 1) c (by omega)).trans h2
  exact ⟨below_setRow (below_setRow (below_on (below_new w _) (below_new _ _)) (Nat.le_refl _) _) (by omega) _, (setRow_other _ _ _ _ (by omega)).trans (setRow_heap _ _ _ _ _ _ h1), setRow_heap _ _ _ _ _ _ h3, h1, h3⟩

/-- What is told of the answer. -/
def Told (q : Int) (l : List Sg) (w : World) (e : Ending) (w' : World) : Prop := (∃ ae ce, e = .returned (.tuple #[.agg (bankC (botB q l)), .slice ae (botL q l).length ce, .int .i64 (botN q l), errV 77 (botE q l)]) ∧ RRow 2 evV w' ae (botL q l) ∧ (∀ k, ae.map (·.block) = some k → w.heap.size ≤ k)) ∧ Below w.heap.size w w'
set_option maxRecDepth 20000 in
set_option maxHeartbeats 8000000 in
theorem runFresh : RunFresh := by
  intro q a l n cap w hn hm hr hs hh
  show Calls Tryd.prog 24 #[.int .i64 q, .slice a n cap] w fun e w' => Told q l w e w'
  have hm' : n ≤ 9223372036854775807 := by unfold maxLen at hm; omega
  have CK := hide (fun (W : World) (h : Below w.heap.size w W) => check_any q a l n cap W hn hm (hr.below h) hs)
  have HH := hide (fun (W : World) (h : Below w.heap.size w W) => hh.below h)
  have HN := hide hn
  have HR := hide hr
  have HS := hide hs
  have HB0 := hide (below_new w (.cells #[.int .i64 0, .int .i64 0, .int .i64 0, .int .i64 0, .int .i64 0, .int .i64 0, .int .i64 0, .int .i64 0] 38))
  have HK0 := hide (blk_new w (.cells #[.int .i64 0, .int .i64 0, .int .i64 0, .int .i64 0, .int .i64 0, .int .i64 0, .int .i64 0, .int .i64 0] 38))
  clear hn hm hr hs hh
  go_enter Tryd.func24, Tryd.ntmps24
  go_wp2_with (fail)
  refine (CK.out _ HB0.out).mono ?_
  rintro e w1 ⟨rfl, hb1⟩
  have HB1 := hide (below_on HB0.out hb1)
  have HK1 := hide (blk_below HK0.out hb1)
  clear hb1 HB0 HK0 CK
  by_cases hE : botE q l = 0
  · have H8 := hide (botE_zero hE).2.1
    have HA := hide (botF_all (botE_zero hE).2.2)
    have EL := hide (bot_some hE).1
    have EN := hide (bot_some hE).2
    have EE := hide hE
    have hn8 : n ≤ 8 := by have := H8.out; have := HN.out; omega
    rw [hE, errV_zero]
    clear hE
    have HF0 : Hid (Far w w1.heap.size w.heap.size [] (.slice none 0 0) (w1.alloc (.cells #[.int .i64 0, .int .i64 0, .int .i64 0, .int .i64 0, .int .i64 0, .int .i64 0, .int .i64 0, .int .i64 0] 38))) := ⟨OwnR.nil _ _ _, blk_new _ _, blk_keep HK1.out _, below_on HB1.out (below_new _ _), ⟨Nat.le_refl _, blk_lt HK1.out⟩⟩
    clear HB1 HK1
    generalize hBB : w1.heap.size = B at HF0
    go_wp2
    go_loopw [10, 25] (fun s10 s25 wr => ∃ (k : Nat) (es : List (Int × Int)) (v : Value), k ≤ n ∧ s25 = .int .i64 k ∧ v = s10 ∧ Hid (Far w B w.heap.size es v wr) ∧ Hid (evL q 0 l = es ++ evL q k (l.drop k)) ∧ Hid (stN q l = k + stN q (l.drop k)) ∧ Hid (es.length = k)) (fun _ s25 _ => n - (intOf s25).toNat)
    case atStart => exact ⟨0, [], _, by omega, rfl, rfl, HF0.out, rfl, (by rw [List.drop_zero, Nat.zero_add] : stN q l = 0 + stN q (l.drop 0)), rfl⟩
    case round =>
      obtain ⟨k, es, v, hk, rfl, rfl, HF, HV, HT, HES⟩ := hrel
      clear HF0
      by_cases hlt : k < n
      · have hlz : (k : Int) < n := by omega
        obtain ⟨s, hx⟩ : ∃ c, l[k]? = some c := ⟨l[k]'(by have := HN.out; omega), List.getElem?_eq_getElem (by have := HN.out; omega)⟩
        have HSZ := hide (HS.out s (List.mem_of_getElem? hx))
        have HD := hide (drop_one hx)
        have hse : imgE s.nm s.v s.cd = 0 := HA.out s (List.mem_of_getElem? hx)
        obtain ⟨b, off, rfl, hc⟩ := (HR.out.below HF.out.lo).at hx
        obtain ⟨x0, x1, x2, x3, x4⟩ := five_cells hc
        have hev : evOk ((k : Int), meaV s.nm s.v s.cd) = true := evOk_iff.2 ⟨isReg_iff.2 ⟨by omega, by omega⟩, mea_is s.nm s.v s.cd⟩
        have hx1 : extE (repV es) k (meaV s.nm s.v s.cd) = 0 := (rep_ext hev).1
        have hx2 : extV (repV es) k (meaV s.nm s.v s.cd) = repV (es ++ [((k : Int), meaV s.nm s.v s.cd)]) := (rep_ext hev).2
        have MS := hide (fun (W : World) (h : Image.Has W) => measured_any (repV es) (bankC (repV es)) k s.nm s.cd s.v W rfl (repV_len es) hse hx1 HSZ.out.1 HSZ.out.2 h)
        rw [hx2] at MS
        have SC := hide (fun (W : World) (h : Image.Has W) => Sign.check_any q s.v s.p s.a s.nm s.cd W HSZ.out.1 HSZ.out.2 h)
        unfold sgnC at SC
        have HV1 := hide (fun (h : sldE q s.nm s.v s.cd s.p s.a = 0) => show evL q 0 l = (es ++ [((k : Int), meaV s.nm s.v s.cd)]) ++ evL q (k + 1) (l.drop (k + 1)) by rw [HV.out, HD.out, evL_ok k h, List.append_assoc]; rfl)
        have HT1 := hide (fun (h : sldE q s.nm s.v s.cd s.p s.a = 0) => show stN q l = (k + 1) + stN q (l.drop (k + 1)) by rw [HT.out, HD.out, stN_ok h]; omega)
        have HV2 := hide (fun (h : ¬ sldE q s.nm s.v s.cd s.p s.a = 0) => show evL q 0 l = es ++ [((k : Int), meaV s.nm s.v s.cd)] by rw [HV.out, HD.out, evL_no k h]; rfl)
        have HT2 := hide (fun (h : ¬ sldE q s.nm s.v s.cd s.p s.a = 0) => show stN q l = k by rw [HT.out, HD.out, stN_no h]; omega)
        clear hx hse hc hev hx1 hx2
        generalize sldE q s.nm s.v s.cd s.p s.a = se at *
        generalize meaV s.nm s.v s.cd = m at *
        have HS0 := hide (show (bankC (repV es)).size = 8 by rw [bankC_size]; exact repV_len _)
        have HSN := hide (show (bankC (repV (es ++ [((k : Int), m)]))).size = 8 by rw [bankC_size]; exact repV_len _)
        have HON := hide (Bank.bankC_one (repV (es ++ [((k : Int), m)])))
        have HE8 := hide (eight_of (repV_len (es ++ [((k : Int), m)])))
        have HO8 := hide (eight_of (repV_len es))
        have HFa := hide (HF.out.below (below_new wr (.cells #[.string s.nm, .int .i64 s.v, .string s.cd, .int .i64 s.p, .int .i64 s.a] 67)))
        have HCa := hide (blk_new wr (.cells #[.string s.nm, .int .i64 s.v, .string s.cd, .int .i64 s.p, .int .i64 s.a] 67))
        have HVL := hide HF.out.lt
        have hBC : B < wr.heap.size := blk_lt HF.out.bank
        generalize hcN : bankC (repV (es ++ [((k : Int), m)])) = cN at MS HSN HON HE8
        have HCN := hide hcN
        clear hcN
        go_wp2_with ((with_reducible refine Bank.wpl_load 9 ?_ ?_ _ ?_ _ _ HFa.out.bank HS0.out ?_); rfl; rfl; rfl)
        refine (MS.out _ (HH.out _ HFa.out.lo)).mono ?_
        rintro e w2 ⟨rfl, hb2⟩
        have HF2 := hide (HFa.out.below hb2)
        have HC2 := hide (blk_below HCa.out hb2)
        have hC2 : wr.heap.size < w2.heap.size := blk_lt HC2.out
        have HL := hide (lay_two w2 cN #[.int .i64 k, .int .i64 m] #[.int .i64 0, .int .i64 0, .int .i64 0, .int .i64 0, .int .i64 0, .int .i64 0, .int .i64 0, .int .i64 0] #[.int .i64 0, .int .i64 0])
        clear hb2 HFa HCa MS HF x0 x1 x2 x3 x4
        obtain ⟨e0, e1⟩ := seal_cells HL.out.2.2.2.2
        obtain ⟨f0, f1⟩ := seal_free HL.out.2.2.2.2
        go_wp2_with ((with_reducible refine Bank.wpl_store 13 36 ?_ ?_ _ ?_ _ _ ?_ HL.out.2.2.2.1 Bank.noBank_size HSN.out HON.out ?_); rfl; rfl; rfl; rfl)
        rw [two_set HL.out.2.2.2.2]
        have HF3 := hide (HF2.out.below HL.out.1)
        have HC3 := hide (blk_below HC2.out HL.out.1)
        have HD3 := hide HL.out.2.1
        have HV3 := hide HL.out.2.2.1
        clear HL e0 e1 f0 f1 HF2 HC2
        generalize (((w2.alloc (.cells #[.int .i64 0, .int .i64 0, .int .i64 0, .int .i64 0, .int .i64 0, .int .i64 0, .int .i64 0, .int .i64 0] 38)).alloc (.cells #[.int .i64 0, .int .i64 0] 93)).setRow w2.heap.size cN).setRow (w2.heap.size + 1) #[.int .i64 k, .int .i64 m] = w3 at *
        generalize w2.heap.size = D at *
        clear w2
        generalize wr.heap.size = C at *
        go_cut [10] (fun s10 w' => ∃ (v' : Value) (w4 : World), v' = s10 ∧ w' = w4 ∧ Hid (Far w B w.heap.size (es ++ [((k : Int), m)]) v' w4 ∧ w4.heap[C]? = some (.cells #[.string s.nm, .int .i64 s.v, .string s.cd, .int .i64 s.p, .int .i64 s.a] 67)))
        case first =>
          obtain ⟨z0, z1, z2, z3, z4, z5, z6, z7, rfl⟩ := HE8.out
          obtain ⟨y0, y1, y2, y3, y4, y5, y6, y7, hy⟩ := HO8.out
          have hbk := HF3.out.bank
          rw [hy] at hbk
          have HBK := hide hbk
          have HNX := hide (show ∀ (w4 : World) (o : Obj) (g c3 : Nat), (w3.drew.alloc o).grownBy w4 v.ownBlock → w4.ownsRow (B + 1) 93 2 (.slice (some ⟨g, 0, none⟩) (es.length + 1) c3) (es.length + 1) (es.flatMap evV ++ evV ((k : Int), m)) → Far w B w.heap.size (es ++ [((k : Int), m)]) (.slice (some ⟨g, 0, none⟩) (es.length + 1) c3) (w4.setRow B #[.int .i64 z0, .int .i64 z1, .int .i64 z2, .int .i64 z3, .int .i64 z4, .int .i64 z5, .int .i64 z6, .int .i64 z7]) from fun w4 o g c3 hg ho => by
            have := HF3.out.drew.next hg ho
            rw [HCN.out] at this
            exact this)
          have HKP := hide (show ∀ (w4 : World) (o : Obj) (x : Nat) (u : Obj), (w3.drew.alloc o).grownBy w4 v.ownBlock → x = B ∨ x = C ∨ x = D → w3.heap[x]? = some u → w4.heap[x]? = some u from fun w4 o x u hg hx hu => HF3.out.drew.keep hg hu (fun e => by
            have h1 := HF3.out.own.block x e
            have h2 := HVL.out x e
            omega))
          have HCB := hide (show C ≠ B by omega)
          obtain ⟨p0, p1, p2, p3, p4, p5, p6, p7⟩ := oct_cells HD3.out
          obtain ⟨q0, q1⟩ := seal_cells HV3.out
          obtain ⟨j0, j1, j2, j3, j4, j5, j6, j7⟩ := oct_cells (blk_keep HD3.out (.cells #[.int .i64 k, .int .i64 m] 93))
          obtain ⟨i0, hi0, hz0, hz1, hz2⟩ := info_parts ev_info
          have HOA := hide (show (w3.alloc (.cells #[.int .i64 k, .int .i64 m] 93)).ownsRow (B + 1) 93 2 v es.length (es.flatMap evV) from HF3.out.own.alloc _)
          have HNW := hide (World.news_of_block (blk_new w3 (.cells #[.int .i64 k, .int .i64 m] 93)))
          have hlen : es.length ≤ 8 := by rw [HES.out]; omega
          have hBw : B + 1 ≤ w3.heap.size := blk_lt HF3.out.bank
          clear hbk
          go_region_law (refine step_append_lies _ rfl (.tmp 44) (.tmp 46) 22 rfl (B + 1) 93 i0 (.agg #[.int .i64 0, .int .i64 0]) 2 16 Tryd.underlying22 hi0 hz0 hz1 hz2 rfl (by decide) v es.length (es.flatMap evV) (by simp [Act.eval]) HOA.out ⟨w3.heap.size, 0, none⟩ 1 1 [.int .i64 k, .int .i64 m] (by simp [Act.eval]) rfl HNW.out (by intro u hu; simp at hu; rcases hu with rfl | rfl <;> rfl) (by decide) (by unfold maxLen; omega) (by omega) (by simp; omega) _ rfl ?_; intro g3 c3 w4 ho3 hg3 hat3 hlt3; have hB4 := HKP.out w4 _ B _ hg3 (Or.inl rfl) HBK.out; obtain ⟨s0, s1, s2, s3, s4, s5, s6, s7⟩ := oct_cells hB4; obtain ⟨t0, t1, t2, t3, t4, t5, t6, t7⟩ := oct_free hB4; obtain ⟨d0, d1, d2, d3, d4, d5, d6, d7⟩ := oct_cells (HKP.out w4 _ D _ hg3 (Or.inr (Or.inr rfl)) HD3.out))
          all_goals
            go_wp2
            rw [oct_set hB4]
            go_meet
            exact ⟨_, _, rfl, rfl, HNX.out _ _ _ _ hg3 ho3, (setRow_other _ _ _ _ HCB.out).trans (HKP.out w4 _ C _ hg3 (Or.inr (Or.inl rfl)) HC3.out)⟩
        case rest =>
        obtain ⟨v', w4, rfl, hw4, HFC⟩ := hcut
        rw [hw4]
        have HF4 := hide HFC.out.1
        obtain ⟨r0, r1, r2, r3, r4⟩ := cells5 HFC.out.2
        clear hw4 HFC HF3 HC3 HD3 HV3 HVL hBC hC2 HE8 HO8 HS0 HD
        go_wp2_with (fail)
        refine (SC.out _ (HH.out _ HF4.out.lo)).mono ?_
        rintro e w5 ⟨rfl, hb5⟩
        have HF5 := hide (HF4.out.below hb5)
        clear hb5 HF4 SC r0 r1 r2 r3 r4
        by_cases hS : se = 0
        · have F1 := hide (HV1.out hS)
          have F2 := hide (HT1.out hS)
          subst hS
          rw [errV_zero]
          go_wp2
          go_roundw
          case rel => exact ⟨k + 1, _, v', by omega, by go_num, rfl, HF5.out, F1.out, F2.out, by rw [List.length_append, HES.out]; rfl⟩
          case measure => simp [intOf]; omega
        · have F1 := hide (EL.out.trans (HV2.out hS))
          have F2 := hide (EN.out.trans (HT2.out hS))
          have HSX := hide (show (bankC (repV (es ++ [((k : Int), m)]))).size = 8 by rw [HCN.out]; exact HSN.out)
          have HOX := hide (Bank.bankC_one (repV (es ++ [((k : Int), m)])))
          rw [Image.errV_ne hS]
          clear hS HV1 HV2 HT1 HT2 HSN HON
          go_wp2_with (first | ((with_reducible refine Bank.wpl_load 9 ?_ ?_ _ ?_ _ _ HF5.out.bank HSX.out ?_); rfl; rfl; rfl) | ((with_reducible refine Bank.wpl_store 4 52 ?_ ?_ _ ?_ _ _ ?_ HF5.out.res Bank.noBank_size HSX.out HOX.out ?_); rfl; rfl; rfl; rfl))
          refine bodyPost_ret (v := .tuple #[.agg (bankC (repV (es ++ [((k : Int), m)]))), v', .int .i64 k, .nilIface]) ?_ rfl ?_
          · exact results_run (p := 4) (x := 5) (y := 6) (z := 7) rfl _ _ w.heap.size _ _ _ _ rfl rfl rfl rfl (setRow_heap _ _ _ _ _ _ HF5.out.res) HSX.out
          · obtain ⟨ae, ce, hv, hr, hf⟩ := HF5.out.ret
            refine ⟨⟨ae, ce, ?_, ?_, hf⟩, below_setRow HF5.out.lo (Nat.le_refl _) _⟩
            · rw [F2.out, EE.out, F1.out, ← hv]
              unfold botB
              rw [F1.out]
              rfl
            · rw [F1.out]; exact hr
      · have hlz : ¬ (k : Int) < n := by omega
        have hd : l.drop k = [] := List.drop_eq_nil_of_le (by have := HN.out; omega)
        have hkn : k = n := by omega
        have F1 := hide (show botL q l = es by rw [EL.out, HV.out, hd]; exact List.append_nil _)
        have F2 := hide (show botN q l = n by rw [EN.out, HT.out, hd, ← hkn]; rfl)
        have HSX := hide (show (bankC (repV es)).size = 8 by rw [bankC_size]; exact repV_len _)
        have HOX := hide (Bank.bankC_one (repV es))
        clear hd hkn
        go_wp2_with (first | ((with_reducible refine Bank.wpl_load 9 ?_ ?_ _ ?_ _ _ HF.out.bank HSX.out ?_); rfl; rfl; rfl) | ((with_reducible refine Bank.wpl_store 4 56 ?_ ?_ _ ?_ _ _ ?_ HF.out.res Bank.noBank_size HSX.out HOX.out ?_); rfl; rfl; rfl; rfl))
        refine bodyPost_ret (v := .tuple #[.agg (bankC (repV es)), v, .int .i64 n, .nilIface]) ?_ rfl ?_
        · exact results_run (p := 4) (x := 5) (y := 6) (z := 7) rfl _ _ w.heap.size _ _ _ _ rfl rfl rfl rfl (setRow_heap _ _ _ _ _ _ HF.out.res) HSX.out
        · obtain ⟨ae, ce, hv, hr, hf⟩ := HF.out.ret
          refine ⟨⟨ae, ce, ?_, ?_, hf⟩, below_setRow HF.out.lo (Nat.le_refl _) _⟩
          · rw [F2.out, EE.out, F1.out, ← hv]
            unfold botB
            rw [F1.out]
            rfl
          · rw [F1.out]; exact hr
  · have F1 := hide (bot_none hE).1
    have F2 := hide (bot_none hE).2
    have F3 := hide (botB_none hE)
    have HX := hide (Image.errV_ne (T := 77) hE)
    rw [HX.out]
    clear hE
    go_wp2_with ((with_reducible refine Bank.wpl_store 4 21 ?_ ?_ _ ?_ _ _ ?_ HK1.out Bank.noBank_size Bank.noBank_size Bank.noBank_one ?_); rfl; rfl; rfl; rfl)
    refine bodyPost_ret (v := .tuple #[.agg #[.int .i64 0, .int .i64 0, .int .i64 0, .int .i64 0, .int .i64 0, .int .i64 0, .int .i64 0, .int .i64 0], .slice none 0 0, .int .i64 0, .iface 77 (.int .i64 (botE q l))]) ?_ rfl ?_
    · exact results_run (p := 4) (x := 5) (y := 6) (z := 7) rfl _ _ w.heap.size _ _ _ _ rfl rfl rfl rfl (setRow_heap _ _ _ _ _ _ HK1.out) Bank.noBank_size
    · refine ⟨⟨none, 0, ?_, ?_, fun k hk => (by cases hk)⟩, below_setRow HB1.out (Nat.le_refl _) _⟩
      · rw [F1.out, F2.out, F3.out, HX.out]; rfl
      · rw [F1.out]; exact RRow.nil _ _
theorem runLaw : RunLaw := runFresh.law
end Go.Proofs.YtidnjnhmkhekeaaDoor.Boot
