/-
  The walk of stairlaw1.NoncePlays: it returns true, and memory that was there stays as it was.
-/
import Derived.Test.YtbmcmigeohcnlaaDoorNonTri
import Derived.Test.YtbmcmigeohcnlaaDoorNonRef2
import Derived.Test.YtbmcmigeohcnlaaDoorAs
namespace Go.Proofs.YtbmcmigeohcnlaaDoor.NoncePlays
open Go.ChangeShapes Go.WideShapes Go.ChangeAt Go.RowKit
open Go.Proofs.YtbmcmigeohcnlaaDoor.M Go.Proofs.YtbmcmigeohcnlaaDoor.Nonce
set_option linter.unusedVariables false

/-- The program's nonces, and the reference's, side by side. -/
structure Duo (w0 : World) (B : Nat) (p : Value) (g : Nat) (v : Value) (Sn : Nat → Prop) (a i : Int) (xs : List Int) (b j : Int) (zs : List Int) (W : World) : Prop where
  n : Non W B p Sn a i xs
  m : NonRef.RIs W B g b j v zs
  ap : Apart Sn (NonRef.rfoot g v)
  lo : Below B w0 W
  hb : B ≤ W.heap.size
section
variable {w0 W W' : World} {B g : Nat} {p v v' : Value} {Sn S' : Nat → Prop} {a i b j a' i' : Int} {xs zs xs' : List Int}
theorem Duo.below (h : Duo w0 B p g v Sn a i xs b j zs W) (hb : Below W.heap.size W W') : Duo w0 B p g v Sn a i xs b j zs W' :=
  ⟨h.n.below hb, h.m.below hb, h.ap, h.lo.trans (hb.mono h.hb), Nat.le_trans h.hb hb.size⟩
theorem Duo.stepN (h : Duo w0 B p g v Sn a i xs b j zs W) (hn : Non W' B p S' a' i' xs') (ho : Only Sn W W') (hf : ∀ k, S' k → Sn k ∨ W.heap.size ≤ k) : Duo w0 B p g v S' a' i' xs' b j zs W' := by
  refine ⟨hn, h.m.only ho (fun k hk hs => h.ap k hs hk), ?_, h.lo.trans (ho.below h.hb (fun k hk => (h.n.has k hk).1)), Nat.le_trans h.hb ho.size⟩
  intro k hk hm
  rcases hf k hk with h1 | h1
  · exact h.ap k h1 hm
  · have := (h.m.has k hm).2; omega
theorem Duo.stepM (h : Duo w0 B p g v Sn a i xs b j zs W) (hn : NonRef.RIs W' B g a' i' v' xs') (ho : Only (NonRef.rfoot g v) W W') (hf : ∀ k, NonRef.rfoot g v' k → NonRef.rfoot g v k ∨ W.heap.size ≤ k) : Duo w0 B p g v' Sn a i xs a' i' xs' W' := by
  refine ⟨h.n.only ho (fun k hk hs => h.ap k hk hs), hn, ?_, h.lo.trans (ho.below h.hb (fun k hk => (h.m.has k hk).1)), Nat.le_trans h.hb ho.size⟩
  intro k hk hm
  rcases hf k hm with h1 | h1
  · exact h.ap k hk h1
  · have := (h.n.has k hk).2; omega
end
theorem ruse_ok (g : Nat) (v : Value) (last many x : Int) (xs : List Int) (w : World) (B : Nat) (h : NonRef.RIs w B g last many v xs) (hl : xs.length ≤ 30) (hB : B ≤ w.heap.size) (hx : x ∈ xs) :
    Calls Tryd.prog 13 #[.pointer (some ⟨g, 0, none⟩), .int .i64 x] w fun e w' => ∃ v', e = .returned (.int .i64 0) ∧ NonRef.RIs w' B g last many v' (xs.erase x) ∧ Only (NonRef.rfoot g v) w w' ∧ (∀ k, NonRef.rfoot g v' k → NonRef.rfoot g v k ∨ w.heap.size ≤ k) := by
  refine (NonRef.use_walk g v last many x xs w B h hl hB).mono ?_
  rintro e w' (⟨h1, _⟩ | ⟨_, he, v', h2⟩)
  · exact absurd hx h1
  · exact ⟨v', he, h2⟩
theorem ruse_no (g : Nat) (v : Value) (last many x : Int) (xs : List Int) (w : World) (B : Nat) (h : NonRef.RIs w B g last many v xs) (hl : xs.length ≤ 30) (hB : B ≤ w.heap.size) (hx : x ∉ xs) :
    Calls Tryd.prog 13 #[.pointer (some ⟨g, 0, none⟩), .int .i64 x] w fun e w' => e = .returned (.int .i64 5) ∧ w' = w := by
  refine (NonRef.use_walk g v last many x xs w B h hl hB).mono ?_
  rintro e w' (⟨_, h2⟩ | ⟨h1, _⟩)
  · exact h2
  · exact absurd h1 hx

set_option maxRecDepth 20000 in
set_option maxHeartbeats 8000000 in
theorem walk (UN : UseNo) (UO : UseOk) (s : Int) (ad : Option Addr) (n cap : Nat) (ls : List Int) (w : World) (hn : n = ls.length) (hm : n ≤ maxLen) (hr : Row w ad ls) (hg : As.Handle w) :
    Calls Tryd.prog 5 #[.int .i64 s, .slice ad n cap] w fun e w' => e = .returned (.bool true) ∧ Below w.heap.size w w' := by
  have HH := hide (fun (W : World) (h : Below w.heap.size w W) => hg.below h)
  have HUN := hide UN
  have HUO := hide UO
  have HR := hide hr
  have HN := hide hn
  have hm' : n ≤ 9223372036854775807 := by unfold maxLen at hm; omega
  clear hg UN UO hr hn hm
  cases hs : isM s with
  | false =>
    have NO := hide (fun W => new_no s W hs)
    go_enter Tryd.func5, Tryd.ntmps5
    go_wp2_with (go_at_call 11; refine (Ref.is_any _ _).mono ?_; rintro e w ⟨rfl, rfl⟩)
    refine (NO.out _).mono ?_
    rintro e w1 ⟨rfl, hb1⟩
    have HB1 := hide hb1
    clear hb1
    go_wp2_with (fail)
    refine (As.same_err 1 1 _ (HH.out _ HB1.out)).mono ?_
    rintro e w2 ⟨rfl, hb2⟩
    have HB2 := hide (HB1.out.trans (hb2.mono HB1.out.size))
    clear hb2
    go_wp2
    go_ret
    exact ⟨rfl, HB2.out⟩
  | true =>
    have NW := hide (new_ok s w w.heap.size hs (Nat.le_refl _))
    have HSM := hide hs
    go_enter Tryd.func5, Tryd.ntmps5
    go_wp2_with (go_at_call 11; refine (Ref.is_any _ _).mono ?_; rintro e w ⟨rfl, rfl⟩)
    refine NW.out.mono ?_
    rintro e w1 ⟨p, S0, rfl, hn1, hf1, hb1⟩
    clear NW
    go_wp2_with (fail)
    refine (As.same_nil _ _).mono ?_
    rintro e w1' ⟨rfl, hw⟩
    rw [hw]
    clear hw
    have HD1 : Hid (Duo w w.heap.size p w1.heap.size (.slice none 0 0) S0 s 0 [] s 0 [] (w1.alloc (.cells #[.int .i64 s, .int .i64 0, .slice none 0 0] 38))) :=
      ⟨hn1.below (below_new _ _), ⟨blk_new _ _, Own.nil _ _ _, by simp [Value.ownBlock], hb1.size, HSM.out, by omega, by omega⟩, (fun k hk hm => by
        have h1 := (hn1.has k hk).2
        rcases hm with h2 | h2
        · omega
        · cases h2), hb1.trans ((below_new _ _).mono hb1.size), Nat.le_trans hb1.size (below_new _ _).size⟩
    have HGN : Hid (w1.heap.size = w1.heap.size) := rfl
    clear hn1 hf1 hb1 hs
    go_wp2
    generalize w1.heap.size = g at *
    go_loopw [9, 11, 12, 13, 14, 15, 16] (fun _ s11 _ _ _ _ _ wr => ∃ (i : Nat) (v : Value) (Sn : Nat → Prop) (la many : Int) (xs : List Int), i ≤ n ∧ i ≤ 80 ∧ s11 = .int .i64 i ∧ Hid (Duo w w.heap.size p g v Sn la many xs la many xs wr) ∧ Hid (xs.length ≤ 8)) (fun _ s11 _ _ _ _ _ _ => 80 - (intOf s11).toNat)
    case atStart => exact ⟨0, _, S0, s, 0, [], by omega, by omega, rfl, HD1.out, (by show ([] : List Int).length ≤ 8; simp)⟩
    case round =>
      obtain ⟨i, v, Sn, la, many, xs, hi, h80, rfl, HD, HX⟩ := hrel
      clear HD1
      by_cases hlt : i < n ∧ i < 80
      · obtain ⟨hin, hi80⟩ := hlt
        have hinz : (i : Int) < n := by omega
        have hi80z : (i : Int) < 80 := by omega
        obtain ⟨y, hy⟩ : ∃ y, ls[i]? = some y := ⟨ls[i]'(by have := HN.out; omega), List.getElem?_eq_getElem (by have := HN.out; omega)⟩
        obtain ⟨b, off, rfl, hcell⟩ : ∃ b off, ad = some ⟨b, off, none⟩ ∧ wr.cell? ⟨b, off + i, none⟩ = some (.int .i64 y) := by
          rcases HR.out.below HD.out.lo with h | ⟨b, off, h1, h2⟩
          · rw [h] at hy; simp at hy
          · exact ⟨b, off, h1, h2 i y hy⟩
        clear hy
        have hrg := HD.out.n.range
        obtain ⟨mg0, mg1, _⟩ := hrg
        have HX30 := hide (Nat.le_trans HX.out (by omega) : xs.length ≤ 30)
        by_cases hy0 : y < 0
        · by_cases hfull : 8 ≤ xs.length ∨ 30 ≤ many
          · have HFU := hide hfull
            clear hfull
            go_wp2_with (fail)
            refine (NonRef.issue_full g v la many xs _ w.heap.size HD.out.m HFU.out).mono ?_
            rintro e w2 ⟨rfl, hw⟩
            rw [hw]
            clear hw
            go_wp2_with (fail)
            refine (issue_full p Sn la many xs _ w.heap.size HD.out.n HFU.out).mono ?_
            rintro e w3 ⟨rfl, hb3⟩
            have HD3 := hide (HD.out.below hb3)
            clear hb3 HD
            go_wp2_with (fail)
            refine (As.same_err 4 4 _ (HH.out _ HD3.out.lo)).mono ?_
            rintro e w4 ⟨rfl, hb4⟩
            have HD4 := hide (HD3.out.below hb4)
            have HXL := HX
            clear hb4 HD3 hcell
            obtain ⟨q0, q1, q2⟩ := tri_cells HD4.out.m.1
            obtain ⟨aq, cq, hvq, _, _⟩ := HD4.out.m.2.1.row
            rw [hvq] at q2
            have OPS := hide (fun nn => open_same p _ _ _ _ _ w.heap.size (HD4.out.n.below (quiet_below nn)))
            go_wp2_with (fail)
            go_quiet ((go_at_call 10; exact Calls.quiet_of_same (OPS.out _)))
            have HDQ := hide (HD4.out.below (quiet_below nq))
            clear q0 q1 q2 hvq OPS
            go_wp2
            go_roundw
            case rel => exact ⟨i + 1, _, _, _, _, _, by omega, by omega, by go_num, HDQ.out, HXL.out⟩
            case measure => simp [intOf]; omega
          · have h8 : xs.length < 8 := by omega
            have h30 : many < 30 := by omega
            clear hfull
            go_wp2_with (fail)
            refine (NonRef.issue_ok g v la many xs _ w.heap.size HD.out.m h8 h30 HD.out.hb).mono ?_
            rintro e w2 ⟨v2, rfl, hm2, ho2, hf2⟩
            have HD2 := hide (HD.out.stepM hm2 ho2 hf2)
            clear hm2 ho2 hf2 HD hcell
            go_wp2_with (fail)
            refine (issue_ok p Sn la many xs _ w.heap.size HD2.out.n h8 h30 HD2.out.hb).mono ?_
            rintro e w3 ⟨S3, rfl, hn3, ho3, hf3⟩
            have HD3 := hide (HD2.out.stepN hn3 ho3 hf3)
            clear hn3 ho3 hf3 HD2
            go_wp2_with (fail)
            refine (As.same_nil _ _).mono ?_
            rintro e w4 ⟨rfl, hw⟩
            rw [hw]
            clear hw
            have HXL := hide (show (xs ++ [stp 7919 la many]).length ≤ 8 by rw [List.length_append]; simp; omega)
            generalize stp 7919 la many = nx at *
            obtain ⟨q0, q1, q2⟩ := tri_cells HD3.out.m.1
            obtain ⟨aq, cq, hvq, _, _⟩ := HD3.out.m.2.1.row
            rw [hvq] at q2
            have OPS := hide (fun nn => open_same p _ _ _ _ _ w.heap.size (HD3.out.n.below (quiet_below nn)))
            go_wp2_with (fail)
            go_quiet ((go_at_call 10; exact Calls.quiet_of_same (OPS.out _)))
            have HDQ := hide (HD3.out.below (quiet_below nq))
            clear q0 q1 q2 hvq OPS
            go_wp2
            go_roundw
            case rel => exact ⟨i + 1, _, _, _, _, _, by omega, by omega, by go_num, HDQ.out, HXL.out⟩
            case measure => simp [intOf]; omega
        · obtain ⟨q0, q1, q2⟩ := tri_cells HD.out.m.1
          obtain ⟨aq, cq, hvq, _, hrq⟩ := HD.out.m.2.1.row
          rw [hvq] at q2
          by_cases hyl : y < xs.length
          · obtain ⟨k, rfl⟩ : ∃ k : Nat, y = k := ⟨y.toNat, by omega⟩
            obtain ⟨z, hz⟩ : ∃ z, xs[k]? = some z := ⟨xs[k]'(by omega), List.getElem?_eq_getElem (by omega)⟩
            obtain ⟨bq, oq, rfl, hcq⟩ : ∃ bq oq, aq = some ⟨bq, oq, none⟩ ∧ wr.cell? ⟨bq, oq + k, none⟩ = some (.int .i64 z) := by
              rcases hrq with h | ⟨bq, oq, h1, h2⟩
              · rw [h] at hz; simp at hz
              · exact ⟨bq, oq, h1, h2 k z hz⟩
            have HIN := hide (List.mem_of_getElem? hz)
            have hkl : k < xs.length := by omega
            clear hz hrq hvq
            go_wp2_with (fail)
            refine (HUO.out p Sn _ _ _ z _ w.heap.size HD.out.n HX30.out HIN.out HD.out.hb).mono ?_
            rintro e w2 ⟨S2, rfl, hn2, ho2, hf2⟩
            have HD2 := hide (HD.out.stepN hn2 ho2 hf2)
            clear hn2 ho2 hf2 HD hcell q0 q1 q2
            go_wp2_with (fail)
            refine (ruse_ok g v la many z xs _ w.heap.size HD2.out.m HX30.out HD2.out.hb HIN.out).mono ?_
            rintro e w3 ⟨v3, rfl, hm3, ho3, hf3⟩
            have HD3 := hide (HD2.out.stepM hm3 ho3 hf3)
            clear hm3 ho3 hf3 HD2
            go_wp2_with (fail)
            refine (As.same_nil _ _).mono ?_
            rintro e w4 ⟨rfl, hw⟩
            rw [hw]
            clear hw
            have HXL := hide (show (xs.erase z).length ≤ 8 from Nat.le_trans (List.length_erase_le ..) HX.out)
            obtain ⟨q0, q1, q2⟩ := tri_cells HD3.out.m.1
            obtain ⟨aq, cq, hvq, _, _⟩ := HD3.out.m.2.1.row
            rw [hvq] at q2
            have OPS := hide (fun nn => open_same p _ _ _ _ _ w.heap.size (HD3.out.n.below (quiet_below nn)))
            go_wp2_with (fail)
            go_quiet ((go_at_call 10; exact Calls.quiet_of_same (OPS.out _)))
            have HDQ := hide (HD3.out.below (quiet_below nq))
            clear q0 q1 q2 hvq OPS
            go_wp2
            go_roundw
            case rel => exact ⟨i + 1, _, _, _, _, _, by omega, by omega, by go_num, HDQ.out, HXL.out⟩
            case measure => simp [intOf]; omega
          · clear hrq hvq
            by_cases hym : y ∈ xs
            · have HIN := hide hym
              clear hym
              go_wp2_with (fail)
              refine (HUO.out p Sn _ _ _ y _ w.heap.size HD.out.n HX30.out HIN.out HD.out.hb).mono ?_
              rintro e w2 ⟨S2, rfl, hn2, ho2, hf2⟩
              have HD2 := hide (HD.out.stepN hn2 ho2 hf2)
              clear hn2 ho2 hf2 HD hcell q0 q1 q2
              go_wp2_with (fail)
              refine (ruse_ok g v la many y xs _ w.heap.size HD2.out.m HX30.out HD2.out.hb HIN.out).mono ?_
              rintro e w3 ⟨v3, rfl, hm3, ho3, hf3⟩
              have HD3 := hide (HD2.out.stepM hm3 ho3 hf3)
              clear hm3 ho3 hf3 HD2
              go_wp2_with (fail)
              refine (As.same_nil _ _).mono ?_
              rintro e w4 ⟨rfl, hw⟩
              rw [hw]
              clear hw
              have HXL := hide (show (xs.erase y).length ≤ 8 from Nat.le_trans (List.length_erase_le ..) HX.out)
              obtain ⟨q0, q1, q2⟩ := tri_cells HD3.out.m.1
              obtain ⟨aq, cq, hvq, _, _⟩ := HD3.out.m.2.1.row
              rw [hvq] at q2
              have OPS := hide (fun nn => open_same p _ _ _ _ _ w.heap.size (HD3.out.n.below (quiet_below nn)))
              go_wp2_with (fail)
              go_quiet ((go_at_call 10; exact Calls.quiet_of_same (OPS.out _)))
              have HDQ := hide (HD3.out.below (quiet_below nq))
              clear q0 q1 q2 hvq OPS
              go_wp2
              go_roundw
              case rel => exact ⟨i + 1, _, _, _, _, _, by omega, by omega, by go_num, HDQ.out, HXL.out⟩
              case measure => simp [intOf]; omega
            · have HNI := hide hym
              clear hym
              go_wp2_with (fail)
              refine (HUN.out p Sn _ _ _ y _ w.heap.size HD.out.n HX30.out HNI.out).mono ?_
              rintro e w2 ⟨rfl, hb2⟩
              have HD2 := hide (HD.out.below hb2)
              clear hb2 HD hcell q0 q1 q2
              go_wp2_with (fail)
              refine (ruse_no g v la many y xs _ w.heap.size HD2.out.m HX30.out HD2.out.hb HNI.out).mono ?_
              rintro e w3 ⟨rfl, hw⟩
              rw [hw]
              clear hw
              go_wp2_with (fail)
              refine (As.same_err 5 5 _ (HH.out _ HD2.out.lo)).mono ?_
              rintro e w4 ⟨rfl, hb4⟩
              have HD4 := hide (HD2.out.below hb4)
              have HXL := HX
              clear hb4 HD2
              obtain ⟨q0, q1, q2⟩ := tri_cells HD4.out.m.1
              obtain ⟨aq, cq, hvq, _, _⟩ := HD4.out.m.2.1.row
              rw [hvq] at q2
              have OPS := hide (fun nn => open_same p _ _ _ _ _ w.heap.size (HD4.out.n.below (quiet_below nn)))
              go_wp2_with (fail)
              go_quiet ((go_at_call 10; exact Calls.quiet_of_same (OPS.out _)))
              have HDQ := hide (HD4.out.below (quiet_below nq))
              clear q0 q1 q2 hvq OPS
              go_wp2
              go_roundw
              case rel => exact ⟨i + 1, _, _, _, _, _, by omega, by omega, by go_num, HDQ.out, HXL.out⟩
              case measure => simp [intOf]; omega
      · by_cases hin : i < n
        · have hinz : (i : Int) < n := by omega
          have hi80z : ¬ (i : Int) < 80 := by omega
          clear hlt
          go_wp2
          go_ret
          exact ⟨rfl, HD.out.lo⟩
        · have hinz : ¬ (i : Int) < n := by omega
          clear hlt
          go_wp2
          go_ret
          exact ⟨rfl, HD.out.lo⟩
end Go.Proofs.YtbmcmigeohcnlaaDoor.NoncePlays
