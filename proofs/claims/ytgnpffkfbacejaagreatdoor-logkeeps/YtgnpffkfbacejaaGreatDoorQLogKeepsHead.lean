/-
  A part of the walk of stairlaw3.LogKeeps: what is ahead of the loop.
-/
import Derived.Test.YtgnpffkfbacejaaGreatDoorQLogKeepsSt
namespace Go.Proofs.YtgnpffkfbacejaaGreatDoor.LogKeeps
open Go.ChangeShapes Go.WideShapes Go.ChangeAt Go.RowKit
open Go.Proofs.YtgnpffkfbacejaaGreatDoor.M Go.Proofs.YtgnpffkfbacejaaGreatDoor.Log
set_option linter.unusedVariables false

set_option maxRecDepth 20000 in
set_option maxHeartbeats 200000000 in
theorem walk_of (HLP : LoopSt) : WalkSt := by
  intro Lg LL RL SL FL CL LE BL SF a0 a1 a2 a3 a4 n0 n1 n2 n3 n4 c0 c1 c2 c3 c4 ns ls ys fs ks w hn0 hm0 hr0 hs0 hn1 hm1 hr1 hn2 hm2 hr2 hn3 hm3 hr3 hn4 hm4 hr4 hb3 hh hg
  have HLP0 := hide HLP
  clear HLP
  have HLL := hide LL
  have HRL := hide RL
  have HSL := hide SL
  have HFL := hide FL
  have HCL := hide CL
  have HLE := hide LE
  have HBL := hide BL
  have HSF := hide SF
  have HG := hide (fun (W : World) (h : Below w.heap.size w W) => And.intro (hg.below h) (hh.below h))
  have HN0 := hide hn0
  have HM0 := hide hm0
  have HR0 := hide hr0
  have HZ0 := hide hs0
  have HN1 := hide hn1
  have HR1 := hide hr1
  have HN2 := hide hn2
  have HR2 := hide hr2
  have HN3 := hide hn3
  have HR3 := hide (And.intro hr3 hb3)
  have HN4 := hide hn4
  have HR4 := hide hr4
  have hm0' : n0 ≤ 9223372036854775807 := by unfold maxLen at hm0; omega
  have hm1' : n1 ≤ 9223372036854775807 := by unfold maxLen at hm1; omega
  have hm2' : n2 ≤ 9223372036854775807 := by unfold maxLen at hm2; omega
  have hm3' : n3 ≤ 9223372036854775807 := by unfold maxLen at hm3; omega
  have hm4' : n4 ≤ 9223372036854775807 := by unfold maxLen at hm4; omega
  have AL := hide (fun (p : Value) (S : Nat → Prop) (j : LS) (g : Nat) (v : Value) (cs : Cs) (W : World) (hb : Below w.heap.size w W) (hl : Lg W w.heap.size p S j) (hc : CntRef.CIs W w.heap.size g v cs) (hf : j.f = CntRef.ofC cs) => alike_any LL LE p S j g v cs a0 n0 c0 ns W w.heap.size hl hc hf hn0 hm0 (hr0.below hb) hs0 (hg.below hb))
  have HS0 : Hid (M.Sep w w.heap.size [] w) := Sep.nil (Below.refl _ _) (Nat.le_refl _)
  have NW := hide (fun (W : World) (h : M.Sep w w.heap.size [] W) => sep_new HLL.out h)
  have KF := hide (fun (m1 m2 : Nat) (h1 : 2 ≤ m1) (h2 : 2 ≤ m2) => keep_fact m1 m2 h1 h2 { data := #[111, 115] } os_nm)
  clear LL RL SL FL CL LE BL SF hn0 hm0 hr0 hs0 hn1 hm1 hr1 hn2 hm2 hr2 hn3 hm3 hr3 hn4 hm4 hr4 hb3 hh hg
  go_enter Tryz.func3, Tryz.ntmps3
  go_wp2_with (fail)
  refine (NW.out _ HS0.out).mono ?_
  rintro e w1 ⟨p1, S1, rfl, hd1⟩
  have R1 := hide (sep_rai HRL.out hd1 { data := #[111, 115] } 5 os_sz (HG.out _ hd1.lo).2)
  obtain ⟨⟨q1, q2⟩, _⟩ := KF.out 2 2 (by omega) (by omega)
  rw [q1, q2, errV_zero] at R1
  clear hd1 q1 q2 HS0
  go_wp2_with (fail)
  refine R1.out.mono ?_
  rintro e w2 ⟨S2, m1, hm12, _, rfl, hd2⟩
  have Y1 := hide (sep_syn HSL.out hd2)
  obtain ⟨_, q3, ⟨q4, q5⟩, _⟩ := KF.out m1 2 hm12 (by omega)
  rw [q3, errV_zero] at Y1
  clear hd2 R1 q3
  go_wp2_with (fail)
  refine Y1.out.mono ?_
  rintro e w3 ⟨S3, rfl, hd3⟩
  have R2 := hide (sep_rai HRL.out hd3 { data := #[111, 115] } 9 os_sz (HG.out _ hd3.lo).2)
  rw [q4, q5, errV_zero] at R2
  clear hd3 Y1 q4 q5
  go_wp2_with (fail)
  refine R2.out.mono ?_
  rintro e w4 ⟨S4, m2, hm22, _, rfl, hd4⟩
  have C1 := hide (sep_cra HCL.out hd4 0)
  obtain ⟨_, _, _, q6, q7⟩ := KF.out m1 m2 hm12 hm22
  clear hd4 R2 KF hm12 hm22
  generalize craT (lraT (synT (lraT newL { data := #[111, 115] } 5 m1)) { data := #[111, 115] } 9 m2) 0 = j4 at *
  have L1 := hide (fun (W : World) (S : Nat → Prop) (h : M.Sep w w.heap.size [logI HLL.out w.heap.size p1 S j4] W) => sep_lea HLE.out h { data := #[111, 115] } os_sz)
  rw [(leaE_ok (f := j4.f) os_nm).1, (leaE_ok (f := j4.f) os_nm).2, q6, errV_zero] at L1
  have B1 := hide (fun (W : World) (S : Nat → Prop) (h : M.Sep w w.heap.size [logI HLL.out w.heap.size p1 S j4] W) => sep_byt HBL.out h)
  have F1 := hide (fun (W : World) (S : Nat → Prop) (h : M.Sep w w.heap.size [logI HLL.out w.heap.size p1 S j4] W) => sep_saf HSF.out h)
  rw [q7] at B1
  clear q6 q7
  generalize j4.safe = sf at *
  go_wp2_with (fail)
  refine C1.out.mono ?_
  rintro e w5 ⟨S5, rfl, hd5⟩
  have L2 := hide (L1.out _ _ hd5)
  clear hd5 C1 L1
  go_wp2_with (fail)
  refine L2.out.mono ?_
  rintro e w6 ⟨rfl, hd6⟩
  have B2 := hide (B1.out _ _ hd6)
  clear hd6 L2 B1
  go_wp2_with (fail)
  refine B2.out.mono ?_
  rintro e w7 ⟨rfl, hd7⟩
  have F2 := hide (F1.out _ _ hd7)
  clear hd7 B2 F1
  go_wp2_with (fail)
  refine F2.out.mono ?_
  rintro e w8 ⟨rfl, hd8⟩
  have NW1 := hide (NW.out _ (Sep.tail hd8))
  clear hd8 F2 NW
  go_wp2_with (fail)
  refine NW1.out.mono ?_
  rintro e w9 ⟨p, S9, rfl, hd9⟩
  have HK0 : Hid (RK HLL.out w p S9 newL (w9.heap.size + 1) 1 (w9.heap.size + 2) 1 [(w9.heap.size, .slice none 0 0, [])] [0] (((w9.alloc (.cells #[.slice none 0 0] 38)).alloc (.cells #[.pointer (some ⟨w9.heap.size, 0, none⟩)] 35)).alloc (.cells #[.int .i64 0] 3))) := ⟨kq_new hd9 _ _ _ rfl rfl rfl, kr_new⟩
  clear hd9 NW1
  go_upto_block 0 with (fail)
  go_cut [20, 21, 22, 23, 24, 25, 26, 27, 28, 29, 30, 31, 32, 33, 34, 35, 36, 37, 38, 39, 40] from 99 to 339 (fun _ _ _ _ _ _ _ _ _ _ _ _ _ _ _ _ _ _ _ _ _ w' => Hid (Below w.heap.size w w'))
  case first =>
    rename_i J0 K0 hJ0 hK0
    refine wp_own hJ0 hK0 ?_
    exact HLP0.out _ (by kernel_rfl) Lg HLL HRL HSL HFL HCL HLE HBL HSF a0 a1 a2 a3 a4 n0 n1 n2 n3 n4 c0 c1 c2 c3 c4 p w (_) ns ls ys fs ks HG HN0 HM0 HR0 HZ0 HN1 HR1 HN2 HR2 HN3 HR3 HN4 HR4 hm0' hm1' hm2' hm3' hm4' AL S9 (w9.heap.size) HK0 _ _ _ _ _ _ _ _ _ _ _ _ _ _ _ _ _ _ _ _ _ _ _ _ _ _ _ _ _ _ _ _ _ _ _ _ _ _ _ _ _ _ _ _ _ _ _ _ _ _ _ _ _ _ _ _ _ _ _ _ _ _ _ _ _ _ _ _ _ _ _ _ _ _ _ _ _ _ _ _ _ _ _ _ _ _ _ _ _ _ _ _ _ _ _ _ _ _ _ _ _ _ _ _ _ _ _ _ _ _ _ _ _ _ _ _ _ _ _ _ _ _ _ _ _ _ _ _ _ _ _ _ _ _ _ _ _ _ _ _ _ _ _ _ _ _ _ _ _ _ _ _ _ _ _ _ _ _ _ _ _ _ _ _ _ _ _ _ _ _ _ _ _ _ _ _ _ _ _ _ _ _ _ _ _ _ _ _ _ _ _ _ _ _ _ _ _ _ _ _ _ _ _ _ _ _ _ _ _ _ _ _ _ _ _ _ _ _ _ _ _ _ _ _ _ _ _ _ _ _ _ _ _ _ _ _ _ _ _ _ _ _ _ _ _ _ _ _ _ _ _ _ _ _ _ _ _ _ _ _ _ _ _ _ _ _ _ _ _ _ _ _ _ _ _ _ _ _ _ _ _ _ _ _ _ _ _ _ _ _ _ _ _ _ _ _ _ _ _ _ _ _ _ _ _ _ _ _ _ _ _ _ _ _ _ _ _ _ _ _ _ _ _ _ _ _ _ _ _ _
  case rest =>
  have HB := hcut
  clear hcut
  go_wp2
  go_ret
  exact ⟨rfl, HB.out⟩
end Go.Proofs.YtgnpffkfbacejaaGreatDoor.LogKeeps
