/-
  The iterator of package log over the records among some bytes: each whole one comes, in order, for every loop body that leaves the bytes as they are.
-/
import Derived.Test.YtgnpffkfbacejaaGreatDoorQLogRead
import Derived.Test.YtgnpffkfbacejaaGreatDoorQRangeKit
namespace Go.Proofs.YtgnpffkfbacejaaGreatDoor.Log
open Go.ChangeShapes Go.WideShapes Go.ChangeAt Go.RowKit Go.Shelf
open Go.Proofs.YtgnpffkfbacejaaGreatDoor.M
set_option linter.unusedVariables false

attribute [local go_sem] Oper.semAt_some

set_option maxHeartbeats 2000000 in
theorem records_any (v : Value) (hv : v.oneCell' = true) (w : World) : Calls Tryz.prog 28 #[v] w fun e w' => e = .returned (.func (.func 49) #[] #[.pointer (some ⟨w.heap.size, 0, none⟩)]) ∧ w' = w.alloc (.cells #[v] 60) := by
  go_enter Tryz.func28, Tryz.ntmps28
  go_wp2
  go_ret
  exact ⟨rfl, rfl⟩
/-- A record, and where it begins among the bytes. -/
abbrev Rc (bs : List UInt8) := { x : Rcd × Nat // GoodR x.1.1 x.1.2.1 ∧ x.1.2.2 = (recL x.1.1 x.1.2.1).length ∧ ∃ c, bs.drop x.2 = recL x.1.1 x.1.2.1 ++ c }
def lenV : Value → Nat
  | .slice _ n _ => n
  | _ => 0
theorem idx_any (a : Addr) (n c : Nat) (ds : List UInt8) (ix : Int) (w : World) (hn : ds.length = n) (hx : Lib.indexByte ds 10 = ix) (hc : ∀ i x, ds[i]? = some x → w.cell? (a.add i) = some (.int .u8 x.toNat)) :
    Calls Tryz.prog 50 #[.slice (some a) n c, .int .u8 10] w fun e w' => e = .returned (.int .i64 ix) ∧ w' = w := by
  refine (Any.bytes_IndexByte_at Tryz.lays187 a n c (numL ds) 10 w (by unfold numL; simpa using hn) (fun i hi => ?_)).mono ?_
  · rw [num_get _ _ (by omega)]
    exact hc i _ (List.getElem?_eq_getElem (by omega))
  · rintro e w' ⟨rfl, rfl⟩
    rw [bytes_num, show (10 : Int).toNat.toUInt8 = 10 from rfl, hx]
    exact ⟨rfl, rfl⟩
set_option maxRecDepth 100000 in
set_option maxHeartbeats 4000000 in
theorem iter_any (n : Nat) (hn : 1 ≤ n) (rs : List Rcd) (tl bs : List UInt8) (b C Bn : Nat) (W0 : World) (hbs : bs = recsL rs ++ tl) (hA : AllR rs) (ht : (10 : UInt8) ∉ tl) (hC : bs.length ≤ C) (hC2 : C ≤ maxLen) (hl : bs.length ≤ 1000000)
    (hb : Boxed W0 Bn 60 (.slice (some ⟨b, 0, none⟩) bs.length C)) (hbl : b < W0.heap.size) (hc : ∀ i x, bs[i]? = some x → W0.cell? ⟨b, i, none⟩ = some (.int .u8 x.toNat)) :
    SeqStopsK Fence.wide n Tryz.prog 49 #[.pointer (some ⟨Bn, 0, none⟩)] (fun x : Rc bs => #[Value.slice (some ⟨b, x.1.2, none⟩) x.1.1.2.2 (C - x.1.2)]) (KpS (fun k => k = b)) (fun ys => ys.map (fun y => y.1.1) = rs) (fun _ => True) rs.length W0 := by
  intro l J Jx W hW hJ hJx hY h0
  have hbW : W.cell? ⟨Bn, 0, none⟩ = some (.slice (some ⟨b, 0, none⟩) bs.length C) := by
    rw [hW.cell (p := ⟨Bn, 0, none⟩) (blk_lt hb)]
    exact hb.cell
  have HC : Hid (∀ i x, bs[i]? = some x → W.cell? ⟨b, i, none⟩ = some (.int .u8 x.toNat)) := fun i x hi => by
    rw [hW.cell (p := ⟨b, i, none⟩) hbl]
    exact hc i x hi
  have HCell : Hid (∀ wr : World, KpS (fun k => k = b) W wr → ∀ i x, bs[i]? = some x → wr.cell? ⟨b, i, none⟩ = some (.int .u8 x.toNat)) := fun wr hk i x hi => by
    rw [World.cell?_of_block (a := ⟨b, i, none⟩) (hk b rfl)]
    exact HC.out i x hi
  have HY := hide hY
  have HBS := hide hbs
  clear hc HC hb hY hbs
  refine callsIn_of_wp Tryz.func49 rfl trivial ?_ rfl
  simp only [Tryz.ntmps49, List.size_toArray, List.length_cons, List.length_nil, Nat.reduceAdd, Nat.reduceSub, Array.replicate_succ, Array.replicate_zero, List.push_toArray, List.append_toArray, List.nil_append, List.cons_append]
  gi_wp2
  gi_loopw [3, 4] (fun s3 _ wr => ∃ (done post : List Rcd) (pre : List (Rc bs)) (o' : Nat), rs = done ++ post ∧ pre.map (fun y => y.1.1) = done ∧ s3 = .slice (some ⟨b, o', none⟩) (bs.length - lenL done) (C - lenL done) ∧ (lenL done < bs.length → o' = lenL done) ∧ KpS (fun k => k = b) W wr ∧ J pre wr)
    (fun s3 _ _ => lenV s3)
  case atStart =>
    exact ⟨[], rs, [], 0, rfl, rfl, by rw [lenL_nil, Nat.sub_zero, Nat.sub_zero], fun _ => rfl, fun _ _ => rfl, h0⟩
  case round =>
    obtain ⟨done, post, pre, o', hx, hpre, rfl, ho, hK, hJs⟩ := hrel
    have hAd : AllR done := fun r hr => hA r (by rw [hx]; exact List.mem_append_left _ hr)
    have hld : (recsL done).length = lenL done := recs_len hAd
    have hdr : bs.drop (lenL done) = recsL post ++ tl := by
      rw [HBS.out, hx, recsL_append, List.append_assoc, ← hld, List.drop_left]
    have hle : lenL done ≤ bs.length := by rw [HBS.out, hx, recsL_append]; simp only [List.length_append, hld]; omega
    have hcel : ∀ i x, (bs.drop (lenL done))[i]? = some x → wr.cell? ((⟨b, o', none⟩ : Addr).add i) = some (.int .u8 x.toNat) := fun i x hi => by
      have h2 : lenL done < bs.length := by
        rw [List.getElem?_drop] at hi
        have := (List.getElem?_eq_some_iff.1 hi).1
        omega
      rw [add_none, ho h2]
      exact HCell.out wr hK _ x (by rw [← List.getElem?_drop]; exact hi)
    cases post with
    | nil =>
      have IX := hide (idx_any ⟨b, o', none⟩ (bs.length - lenL done) (C - lenL done) (bs.drop (lenL done)) (-1) wr (by rw [List.length_drop]) (by rw [hdr]; exact index_none ht) hcel)
      have HR : Hid (pre.map (fun y => y.1.1) = rs) := (by rw [hpre, hx, List.append_nil] : pre.map (fun y => y.1.1) = rs)
      have HJ := hide hJs
      generalize bs.length - lenL done = nn at *
      generalize C - lenL done = cc at *
      clear hcel hdr ho hx hpre hJs HY
      gi_wp2_with (refine ⟨trivial, ?_⟩; gi_at_call 50; refine (callsIn_wide.2 IX.out).mono ?_; rintro e w1 ⟨rfl, rfl⟩)
      refine ⟨fun _ h => (by cases h), ?_⟩
      gi_wp2
      refine bodyPost_ret (results_none rfl _ _ _) rfl ?_
      exact ⟨⟨_, rfl⟩, .inl ⟨pre, HR.out, HJ.out⟩⟩
    | cons r post =>
      have hr := hA r (by rw [hx]; exact List.mem_append_right _ (List.mem_cons_self ..))
      have hbod := bod_len hr.1
      obtain ⟨m, hm⟩ : ∃ m, (bodL r.1 r.2.1).length = m := ⟨_, rfl⟩
      have hrl : r.2.2 = m + 1 := by rw [hr.2, rec_len, hm]
      have hds : bs.drop (lenL done) = bodL r.1 r.2.1 ++ 10 :: (recsL post ++ tl) := by rw [hdr, recsL_cons]; unfold recL; simp
      have hdl := congrArg List.length hds
      rw [List.length_drop, List.length_append, List.length_cons, hm] at hdl
      have hoo : o' = lenL done := ho (by omega)
      subst hoo
      have IX := hide (idx_any ⟨b, lenL done, none⟩ (bs.length - lenL done) (C - lenL done) (bs.drop (lenL done)) m wr (by rw [List.length_drop]) (by rw [hds, index_at (bod_ten hr.1), hm]) hcel)
      obtain ⟨x, hxv⟩ : ∃ x : Rc bs, x.1 = (r, lenL done) := ⟨⟨(r, lenL done), hr.1, hr.2, recsL post ++ tl, by rw [hdr, recsL_cons, List.append_assoc]⟩, rfl⟩
      obtain ⟨fn, tmps, assign, body, hy, hR⟩ := HY.out pre x wr hJs (by rw [← List.length_map (f := fun y : Rc bs => y.1.1), hpre, hx]; simp)
      rw [hxv, hrl] at hy
      have HREL : Hid (rs = (done ++ [r]) ++ post ∧ (pre ++ [x]).map (fun y => y.1.1) = done ++ [r] ∧ lenL (done ++ [r]) = lenL done + (m + 1)) := ⟨by rw [hx]; simp, by rw [List.map_append, hpre]; simp [hxv], by rw [lenL_snoc, hrl]⟩
      have HM : Hid (m + 1 ≤ bs.length - lenL done ∧ bs.length ≤ C) := ⟨by omega, hC⟩
      have HKK := hide hK
      have hcc : m + 1 ≤ C - lenL done := by omega
      have hccz : (m : Int) + 1 ≤ ((C - lenL done : Nat) : Int) := by omega
      have hnnz : (m : Int) + 1 ≤ ((bs.length - lenL done : Nat) : Int) := by omega
      have hm0 : ¬ (m : Int) < 0 := by omega
      have hm1 : (0 : Int) ≤ (m : Int) + 1 := by omega
      have hwr : IntKind.i64.wrap ((m : Int) + 1) = (m : Int) + 1 := wrap_in (by omega) (by omega)
      have hc0 : ¬ C - lenL done = 0 := by omega
      generalize hnn : bs.length - lenL done = nn at *
      generalize hcn : C - lenL done = cc at *
      clear hcel hdr ho hx hpre hJs HY hds hdl hr hbod hrl hm hK hxv
      gi_wp2_with (refine ⟨trivial, ?_⟩; gi_at_call 50; refine (callsIn_wide.2 IX.out).mono ?_; rintro e w1 ⟨rfl, rfl⟩)
      refine hR.mono ?_
      rintro e W3 (⟨rfl, hJ3, hk3⟩ | ⟨rfl, hJx3⟩)
      · gi_wp2
        go_roundw
        case rel =>
          refine ⟨done ++ [r], post, pre ++ [x], if cc = m + 1 then lenL done else lenL done + (m + 1), HREL.out.1, HREL.out.2.1, ?_, ?_, kpS_t HKK.out hk3, hJ3⟩
          · rw [HREL.out.2.2, show bs.length - (lenL done + (m + 1)) = nn - (m + 1) by omega, show C - (lenL done + (m + 1)) = cc - (m + 1) by omega]
            split <;> rfl
          · rw [HREL.out.2.2]
            intro hlt
            rw [if_neg (by have := HM.out; omega)]
        case measure =>
          have := HM.out.1
          show nn - (m + 1) < nn
          omega
      · gi_wp2
        refine bodyPost_ret (results_none rfl _ _ _) rfl ?_
        exact ⟨⟨_, rfl⟩, .inr ⟨pre ++ [x], trivial, hJx3⟩⟩
set_option maxRecDepth 100000 in
set_option maxHeartbeats 4000000 in
/-- Of no byte no record comes. -/
theorem iter_nil (n : Nat) (hn : 1 ≤ n) (b C Bn : Nat) (W0 : World) (hb : Boxed W0 Bn 60 (.slice none 0 0)) :
    SeqStopsK Fence.wide n Tryz.prog 49 #[.pointer (some ⟨Bn, 0, none⟩)] (fun x : Rc [] => #[Value.slice (some ⟨b, x.1.2, none⟩) x.1.1.2.2 (C - x.1.2)]) (KpS (fun k => k = b)) (fun ys => ys.map (fun y => y.1.1) = []) (fun _ => True) 0 W0 := by
  intro l J Jx W hW hJ hJx hY h0
  have hbW : W.cell? ⟨Bn, 0, none⟩ = some (.slice none 0 0) := by
    rw [hW.cell (p := ⟨Bn, 0, none⟩) (blk_lt hb)]
    exact hb.cell
  have HJ := hide h0
  clear hb hY h0
  refine callsIn_of_wp Tryz.func49 rfl trivial ?_ rfl
  simp only [Tryz.ntmps49, List.size_toArray, List.length_cons, List.length_nil, Nat.reduceAdd, Nat.reduceSub, Array.replicate_succ, Array.replicate_zero, List.push_toArray, List.append_toArray, List.nil_append, List.cons_append]
  gi_wp2
  gi_loopw [3, 4] (fun s3 _ wr => s3 = .slice none 0 0 ∧ wr = W) (fun _ _ _ => 0)
  case atStart => exact ⟨rfl, rfl⟩
  case round =>
    obtain ⟨rfl, rfl⟩ := hrel
    have IX := hide (Any.bytes_IndexByte_nil Tryz.lays187 10 wr)
    gi_wp2_with (refine ⟨trivial, ?_⟩; gi_at_call 50; refine (callsIn_wide.2 IX.out).mono ?_; rintro e w1 ⟨rfl, rfl⟩)
    refine ⟨fun _ h => (by cases h), ?_⟩
    gi_wp2
    refine bodyPost_ret (results_none rfl _ _ _) rfl ?_
    exact ⟨⟨_, rfl⟩, .inl ⟨[], rfl, HJ.out⟩⟩
/-- The records among the bytes that a value has, wherever these lie. -/
theorem iter_byt (n : Nat) (hn : 1 ≤ n) (rs : List Rcd) (tl bs : List UInt8) (kv : Value) (B g Bn : Nat) (W0 : World) (hbs : bs = recsL rs ++ tl) (hA : AllR rs) (ht : (10 : UInt8) ∉ tl) (hl : bs.length ≤ 1000000) (hk : Byt W0 B kv bs) (hb : Boxed W0 Bn 60 kv) :
    ∃ b C, (kv.ownBlock = some b ∨ b = g) ∧ bs.length ≤ C ∧ (∀ i x, bs[i]? = some x → W0.cell? ⟨b, i, none⟩ = some (.int .u8 x.toNat)) ∧
      SeqStopsK Fence.wide n Tryz.prog 49 #[.pointer (some ⟨Bn, 0, none⟩)] (fun x : Rc bs => #[Value.slice (some ⟨b, x.1.2, none⟩) x.1.1.2.2 (C - x.1.2)]) (KpS (fun k => k = b)) (fun ys => ys.map (fun y => y.1.1) = rs) (fun _ => True) rs.length W0 := by
  rcases hk.form with ⟨rfl, rfl⟩ | ⟨b, C, rfl, h1, h2, h3, h4, h5⟩
  · have hr : rs = [] := by
      cases rs with
      | nil => rfl
      | cons r t => rw [recsL_cons] at hbs; have := congrArg List.length hbs; simp only [List.length_nil, List.length_append, rec_len] at this; omega
    subst hr
    exact ⟨g, 0, Or.inr rfl, Nat.le_refl _, fun i x h => by simp at h, iter_nil n hn g 0 Bn W0 hb⟩
  · exact ⟨b, C, Or.inl rfl, h3, h5, iter_any n hn rs tl bs b C Bn W0 hbs hA ht h3 h4 hl hb h2 h5⟩
end Go.Proofs.YtgnpffkfbacejaaGreatDoor.Log
