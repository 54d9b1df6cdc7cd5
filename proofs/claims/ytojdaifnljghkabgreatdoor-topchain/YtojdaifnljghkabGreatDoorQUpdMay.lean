/-
  Contract of package update's May over this translation: what it returns, and that memory that was there stays as it was.
-/
import Derived.Test.YtojdaifnljghkabGreatDoorPack1
import Derived.Test.YtojdaifnljghkabGreatDoorQCert1
import Derived.Test.YtojdaifnljghkabGreatDoorQCntObj
import Derived.Test.YtojdaifnljghkabGreatDoorQCells
namespace Go.Proofs.YtojdaifnljghkabGreatDoor.Update
open Go.ChangeShapes Go.WideShapes Go.ChangeAt Go.RowKit
open Go.Proofs.YtojdaifnljghkabGreatDoor.M
set_option linter.unusedVariables false

theorem blk_second (w : World) (o o' : Obj) : ((w.alloc o).alloc o').heap[w.heap.size + 1]? = some o' := by
  have := blk_new (w.alloc o) o'
  simpa using this
theorem newV_is {now next : Sg} (h : newS next now = 0) : newV next.nm next.v next.cd now.nm now.v now.cd = decide (now.v < next.v) := newV_ok (nm := next.nm) (cd := next.cd) (nm' := now.nm) (cd' := now.cd) h

set_option maxHeartbeats 4000000 in
theorem mayLaw : MayLaw Count.Cnt := by
  intro root a l n cap p S f k now next w B hn hm hr hh hc hz1 hz2
  have U1 := hide (fun h => upd_last (f := f) (now := now) (next := next) (root := root) (l := l) h)
  have U2 := hide (fun h h2 => upd_sld (f := f) (now := now) (next := next) (root := root) (l := l) h h2)
  have U3 := hide (fun h h2 h3 => upd_new (f := f) (now := now) (next := next) (root := root) (l := l) h h2 h3)
  have U4 := hide (fun h h2 h3 h4 => upd_old (f := f) (now := now) (next := next) (root := root) (l := l) h h2 h3 h4)
  have U5 := hide (fun h h2 h3 h4 => upd_may (f := f) (now := now) (next := next) (root := root) (l := l) h h2 h3 h4)
  have UV := hide (fun h => newV_is (now := now) (next := next) h)
  have SG := hide (fun W h => Sign.check_any (lastV root l) next.v next.p next.a next.nm next.cd W hz2.1 hz2.2 h)
  have NW := hide (fun W => Image.newer_any next.nm next.cd now.nm now.cd next.v now.v W hz2.1 hz2.2 hz1.1 hz1.2)
  have CM := hide (fun W h => Count.mayLaw p S f k next.nm next.v W B h hz2.1)
  rw [show sldE (lastV root l) next.nm next.v next.cd next.p next.a = sldS (lastV root l) next from rfl] at SG
  rw [show newE next.nm next.v next.cd now.nm now.v now.cd = newS next now from rfl] at NW
  generalize updE root l f now next = ue at *
  generalize newS next now = ne at *
  generalize sldS (lastV root l) next = se at *
  obtain ⟨nm, v, cd, pp, aa⟩ := now
  obtain ⟨nm', v', cd', pp', aa'⟩ := next
  simp only [] at U4 U5 UV SG NW CM
  unfold sgA
  unfold sgnC at SG
  unfold imgC at NW
  have hb0 := below_on (below_new w (.cells #[.string nm, .int .i64 v, .string cd, .int .i64 pp, .int .i64 aa] 27)) (below_new _ (.cells #[.string nm', .int .i64 v', .string cd', .int .i64 pp', .int .i64 aa'] 27))
  have HG := hide (blk_keep (blk_new w (.cells #[.string nm, .int .i64 v, .string cd, .int .i64 pp, .int .i64 aa] 27)) (.cells #[.string nm', .int .i64 v', .string cd', .int .i64 pp', .int .i64 aa'] 27))
  have HK := hide (blk_second w (.cells #[.string nm, .int .i64 v, .string cd, .int .i64 pp, .int .i64 aa] 27) (.cells #[.string nm', .int .i64 v', .string cd', .int .i64 pp', .int .i64 aa'] 27))
  have LA := hide (Cert.last_any root a l n cap _ hn hm (hr.below hb0))
  have HH := hide (hh.below hb0)
  have HC := hide (Count.core.below hc hb0)
  have HB := hide hb0
  clear hb0 hn hm hr hh hc hz1 hz2
  generalize lastC root l = lc at *
  generalize lastV root l = lv at *
  generalize newV nm' v' cd' nm v cd = nv at *
  generalize mayE f nm' v' = me at *
  go_enter Tryz.func95, Tryz.ntmps95
  go_wp2_with (fail)
  refine LA.out.mono ?_
  rintro e w1 ⟨rfl, hb1⟩
  have HB1 := hide (below_on HB.out hb1)
  have HG1 := hide (blk_below HG.out hb1)
  have HK1 := hide (blk_below HK.out hb1)
  have HH1 := hide (HH.out.below hb1)
  have HC1 := hide (Count.core.below HC.out hb1)
  clear hb1 HB HG HK HH HC LA
  by_cases hE : lc = 0
  · subst hE
    rw [errV_zero]
    obtain ⟨c0, c1, c2, c3, c4⟩ := quin_cells HK1.out
    go_wp2_with (fail)
    refine (SG.out _ HH1.out).mono ?_
    rintro e w2 ⟨rfl, hb2⟩
    have HB2 := hide (below_on HB1.out hb2)
    have HG2 := hide (blk_below HG1.out hb2)
    have HK2 := hide (blk_below HK1.out hb2)
    have HC2 := hide (Count.core.below HC1.out hb2)
    clear hb2 HB1 HG1 HK1 HH1 HC1 SG c0 c1 c2 c3 c4
    by_cases hF : se = 0
    · subst hF
      rw [errV_zero]
      obtain ⟨c0, c1, c2, c3, c4⟩ := quin_cells HK2.out
      obtain ⟨d0, d1, d2, d3, d4⟩ := quin_cells HG2.out
      go_wp2_with (fail)
      refine (NW.out _).mono ?_
      rintro e w3 ⟨rfl, hb3⟩
      have HB3 := hide (below_on HB2.out hb3)
      have HK3 := hide (blk_below HK2.out hb3)
      have HC3 := hide (Count.core.below HC2.out hb3)
      clear hb3 HB2 HG2 HK2 HC2 NW c0 c1 c2 c3 c4 d0 d1 d2 d3 d4
      by_cases hN : ne = 0
      · subst hN
        rw [errV_zero]
        have UV1 := UV.out (by trivial)
        by_cases hv : v < v'
        · have E := hide (U5.out (by trivial) (by trivial) (by trivial) hv)
          rw [decide_eq_true hv] at UV1
          subst UV1
          clear hv
          obtain ⟨c0, c1, c2, c3, c4⟩ := quin_cells HK3.out
          go_wp2_with (fail)
          refine (CM.out _ HC3.out).mono ?_
          rintro e w4 ⟨rfl, hb4⟩
          have HB4 := hide (below_on HB3.out hb4)
          clear hb4 HB3 HK3 HC3 CM c0 c1 c2 c3 c4
          go_wp2
          go_ret
          exact ⟨by rw [E.out]; rfl, HB4.out⟩
        · have E := hide (U4.out (by trivial) (by trivial) (by trivial) (by omega))
          rw [decide_eq_false hv] at UV1
          subst UV1
          clear hv
          go_wp2
          go_ret
          exact ⟨by rw [E.out]; rfl, HB3.out⟩
      · have E := hide (U3.out (by trivial) (by trivial) hN)
        rw [Image.errV_ne hN]
        have HX := hide (Image.errV_ne (T := 96) hN)
        clear hN
        go_wp2
        go_ret
        exact ⟨by rw [E.out, HX.out]; rfl, HB3.out⟩
    · have E := hide (U2.out (by trivial) hF)
      rw [Image.errV_ne hF]
      have HX := hide (Image.errV_ne (T := 96) hF)
      clear hF
      go_wp2
      go_ret
      exact ⟨by rw [E.out, HX.out]; rfl, HB2.out⟩
  · have E := hide (U1.out hE)
    rw [Image.errV_ne hE]
    have HX := hide (Image.errV_ne (T := 96) hE)
    clear hE
    go_wp2
    go_ret
    exact ⟨by rw [E.out, HX.out]; rfl, HB1.out⟩
end Go.Proofs.YtojdaifnljghkabGreatDoor.Update
