/-
  The walk of stairlaw2.KeeperPlays: it returns true, and memory that was there stays as it was.
-/
import Derived.Test.YtidnjnhmkhekeaaDoorQKeeperOb
import Derived.Test.YtidnjnhmkhekeaaDoorQEvsIn
import Derived.Test.YtidnjnhmkhekeaaDoorQJudgeRef
import Derived.Test.YtidnjnhmkhekeaaDoorQNonRef2
import Derived.Test.YtidnjnhmkhekeaaDoorQAs
import Derived.Deep.DeepCutAuto
namespace Go.Proofs.YtidnjnhmkhekeaaDoor.KeeperPlays
open Go.ChangeShapes Go.WideShapes Go.ChangeAt Go.RowKit
open Go.Proofs.YtidnjnhmkhekeaaDoor.M Go.Proofs.YtidnjnhmkhekeaaDoor.Keeper
set_option linter.unusedVariables false

theorem errV_no {T : TypeId} {k : Int} (h : ¬ k = 0) : errV T k = .iface T (.int .i64 k) := if_neg h
def risI (B g : Nat) (v : Value) (la mn : Int) (xs : List Int) : Thing B where
  F := NonRef.rfoot g v
  P := fun W => NonRef.RIs W B g la mn v xs
  has := fun h => h.has
  st := fun h ho hn => h.only ho hn
section
variable {Kpr : World → Nat → Value → (Nat → Prop) → KS → Prop}
/-- The program's keeper and the reference's nonces: two things that lie apart. -/
def Duo (LK : Core Kpr) (w0 : World) (p : Value) (S : Nat → Prop) (s : KS) (g : Nat) (v : Value) (W : World) : Prop :=
  Sep w0 w0.heap.size [kprI LK w0.heap.size p S s, risI w0.heap.size g v s.la s.mn s.xs] W
variable {LK : Core Kpr} {w0 W W' : World} {p v v' : Value} {S S' : Nat → Prop} {s s' : KS} {g : Nat} {xs : List Int}
theorem Duo.below (h : Duo LK w0 p S s g v W) (hb : Below W.heap.size W W') : Duo LK w0 p S s g v W' := Sep.below h hb
theorem Duo.lo (h : Duo LK w0 p S s g v W) : Below w0.heap.size w0 W := Sep.lo h
theorem Duo.hb (h : Duo LK w0 p S s g v W) : w0.heap.size ≤ W.heap.size := Sep.hb h
theorem Duo.k (h : Duo LK w0 p S s g v W) : Kpr W w0.heap.size p S s := Sep.p0 h
/-- And a quote beside them. -/
def quoO (q : Int × Int × Int × Int × Int) : Obj := .cells #[.int .i64 q.1, .int .i64 q.2.1, .int .i64 q.2.2.1, .int .i64 q.2.2.2.1, .int .i64 q.2.2.2.2] 34
def Trio (LK : Core Kpr) (w0 : World) (p : Value) (S : Nat → Prop) (s : KS) (g : Nat) (v : Value) (xs : List Int) (qb : Nat) (hq : w0.heap.size ≤ qb) (q : Int × Int × Int × Int × Int) (W : World) : Prop :=
  Sep w0 w0.heap.size [kprI LK w0.heap.size p S s, risI w0.heap.size g v s.la s.mn xs, blkI w0.heap.size qb hq (quoO q)] W
theorem Duo.more {q : Int × Int × Int × Int × Int} (h : Duo LK w0 p S s g v W) (hq : w0.heap.size ≤ W.heap.size) : Trio LK w0 p S s g v s.xs W.heap.size hq q (W.alloc (quoO q)) :=
  (Sep.allocz h hq (quoO q)).perm (List.perm_append_comm (l₁ := [_]) (l₂ := [_, _]))
theorem Trio.less {q : Int × Int × Int × Int × Int} {qb : Nat} {hq : w0.heap.size ≤ qb} (h : Trio LK w0 p S s g v xs qb hq q W) : Sep w0 w0.heap.size [kprI LK w0.heap.size p S s, risI w0.heap.size g v s.la s.mn xs] W :=
  (Sep.perm h (List.perm_append_comm (l₁ := [_, _]) (l₂ := [_]))).tail
theorem Trio.b {q0 q1 q2 q3 q4 : Int} {qb : Nat} {hq : w0.heap.size ≤ qb} (h : Trio LK w0 p S s g v xs qb hq (q0, q1, q2, q3, q4) W) : W.heap[qb]? = some (.cells #[.int .i64 q0, .int .i64 q1, .int .i64 q2, .int .i64 q3, .int .i64 q4] 34) := Sep.p2 h
theorem Trio.m {q : Int × Int × Int × Int × Int} {qb : Nat} {hq : w0.heap.size ≤ qb} (h : Trio LK w0 p S s g v xs qb hq q W) : NonRef.RIs W w0.heap.size g s.la s.mn v xs := Sep.p1 h
theorem Trio.below {q : Int × Int × Int × Int × Int} {qb : Nat} {hq : w0.heap.size ≤ qb} (h : Trio LK w0 p S s g v xs qb hq q W) (hb : Below W.heap.size W W') : Trio LK w0 p S s g v xs qb hq q W' := Sep.below h hb
theorem Trio.lo {q : Int × Int × Int × Int × Int} {qb : Nat} {hq : w0.heap.size ≤ qb} (h : Trio LK w0 p S s g v xs qb hq q W) : Below w0.heap.size w0 W := Sep.lo h
theorem Trio.hb {q : Int × Int × Int × Int × Int} {qb : Nat} {hq : w0.heap.size ≤ qb} (h : Trio LK w0 p S s g v xs qb hq q W) : w0.heap.size ≤ W.heap.size := Sep.hb h
theorem Duo.m (h : Duo LK w0 p S s g v W) : NonRef.RIs W w0.heap.size g s.la s.mn v s.xs := Sep.p1 h
end
theorem ruse_ok (g : Nat) (v : Value) (last many x : Int) (xs : List Int) (w : World) (B : Nat) (h : NonRef.RIs w B g last many v xs) (hl : xs.length ≤ 30) (hB : B ≤ w.heap.size) (hx : x ∈ xs) :
    Calls Tryd.prog 20 #[.pointer (some ⟨g, 0, none⟩), .int .i64 x] w fun e w' => ∃ v', e = .returned (.int .i64 0) ∧ NonRef.RIs w' B g last many v' (xs.erase x) ∧ Only (NonRef.rfoot g v) w w' ∧ (∀ k, NonRef.rfoot g v' k → NonRef.rfoot g v k ∨ w.heap.size ≤ k) := by
  refine (NonRef.use_walk g v last many x xs w B h hl hB).mono ?_
  rintro e w' (⟨h1, _⟩ | ⟨_, he, v', h2⟩)
  · exact absurd hx h1
  · exact ⟨v', he, h2⟩
theorem ruse_no (g : Nat) (v : Value) (last many x : Int) (xs : List Int) (w : World) (B : Nat) (h : NonRef.RIs w B g last many v xs) (hl : xs.length ≤ 30) (hB : B ≤ w.heap.size) (hx : x ∉ xs) :
    Calls Tryd.prog 20 #[.pointer (some ⟨g, 0, none⟩), .int .i64 x] w fun e w' => e = .returned (.int .i64 5) ∧ w' = w := by
  refine (NonRef.use_walk g v last many x xs w B h hl hB).mono ?_
  rintro e w' (⟨_, h2⟩ | ⟨h1, _⟩)
  · exact h2
  · exact absurd h1 hx

set_option maxRecDepth 20000 in
set_option maxHeartbeats 8000000 in
theorem walk {Kpr : World → Nat → Value → (Nat → Prop) → KS → Prop} (LK : Core Kpr) (AN : AskNo Kpr) (AO : AskOk Kpr) (GV : GiveLaw Kpr) (GN : GivenLaw Kpr)
    (pub sec seed : Int) (ar : Option Addr) (rl : List (Int × Value × List Int)) (nr cr : Nat) (a4 : Option Addr) (n4 c4 : Nat) (ds : List Int) (a5 : Option Addr) (n5 c5 : Nat) (qs : List (Int × Int × Int × Int × Int)) (a6 : Option Addr) (n6 c6 : Nat) (ess : List (Value × List (Int × Int))) (w : World)
    (hnr : nr = rl.length) (hmr : nr ≤ maxLen) (hcr : nr ≤ cr) (hrr : RulesIn w ar rl) (hn4 : n4 = ds.length) (hm4 : n4 ≤ maxLen) (hr4 : Row w a4 ds) (hn5 : n5 = qs.length) (hm5 : n5 ≤ maxLen) (hr5 : RRow 5 quoL w a5 qs) (hn6 : n6 = ess.length) (hm6 : n6 ≤ maxLen) (hr6 : EvsIn w a6 ess) (hg : As.Handle w) :
    Calls Tryd.prog 5 #[.int .i64 pub, .int .i64 sec, .int .i64 seed, .slice ar nr cr, .slice a4 n4 c4, .slice a5 n5 c5, .slice a6 n6 c6] w fun e w' => e = .returned (.bool true) ∧ Below w.heap.size w w' := by
  have HLK := hide LK
  have HH := hide (fun (W : World) (h : Below w.heap.size w W) => hg.below h)
  have HAN := hide AN
  have HAO := hide AO
  have HGN := hide GN
  have HGV := hide GV
  have RR := hide (fun (W : World) (h : Below w.heap.size w W) => Ref.rules_any ar rl nr cr W hnr hmr (hrr.below h))
  have NO := hide (fun (W : World) (hb : Below w.heap.size w W) (h : ¬ kprE pub sec seed (rulesL rl) = 0) => LK.newNo pub sec seed ar rl nr cr W hnr hmr hcr (hrr.below hb) h)
  have NW := hide (fun (W : World) (h : Sep w w.heap.size [] W) (hE : kprE pub sec seed (rulesL rl) = 0) => sep_new HLK.out pub sec seed ar rl nr cr hnr hmr hcr (hrr.below h.lo) hE h)
  have SR := hide (fun (q : Int × Int × Int × Int × Int) (nn : Int) (a : Option Addr) (es : List (Int × Int)) (n cap : Nat) (hn : n = es.length) (hm : n ≤ maxLen) (hr : RRow 2 evV w a es) (W : World) (h : Below w.heap.size w W) => JudgeRef.sure_any pub q nn a es n cap ar rl nr cr W hn hm (hr.below h) hnr hmr (hrr.below h))
  have HN4 := hide hn4
  have HR4 := hide hr4
  have HN5 := hide hn5
  have HR5 := hide hr5
  have HN6 := hide hn6
  have HR6 := hide hr6
  have hm4' : n4 ≤ 9223372036854775807 := by unfold maxLen at hm4; omega
  have hm5' : n5 ≤ 9223372036854775807 := by unfold maxLen at hm5; omega
  have hm6' : n6 ≤ 9223372036854775807 := by unfold maxLen at hm6; omega
  clear LK AN AO GV GN hnr hmr hcr hrr hn4 hm4 hr4 hn5 hm5 hr5 hn6 hm6 hr6 hg
  by_cases hE : kprE pub sec seed (rulesL rl) = 0
  · obtain ⟨b1, b2, b3, b4⟩ := kprE_zero hE
    have NW1 := hide (fun (W : World) (h : Sep w w.heap.size [] W) => NW.out W h hE)
    rw [b4] at RR
    clear NO NW hE b4
    go_enter Tryd.func5, Tryd.ntmps5
    go_wp2_with (first
      | (go_at_call 16; refine (Ref.in_any _ _).mono ?_; rintro e w ⟨rfl, rfl⟩)
      | (go_at_call 17; refine (Ref.is_any _ _).mono ?_; rintro e w ⟨rfl, rfl⟩))
    refine (RR.out _ (Below.refl _ _)).mono ?_
    rintro e w1 ⟨rfl, hb1⟩
    have HD1 := hide (Sep.below (its := []) (Sep.nil (Below.refl w.heap.size w) (Nat.le_refl _)) hb1)
    clear hb1 RR
    go_wp2_with (fail)
    refine (NW1.out _ HD1.out).mono ?_
    rintro e w2 ⟨p, S0, rfl, hd2⟩
    have HD2 := hide hd2
    clear hd2 HD1 NW1
    go_wp2_with (fail)
    refine (As.same_nil _ _).mono ?_
    rintro e w2' ⟨rfl, hw⟩
    rw [hw]
    clear hw
    have HD3 : Hid (Duo HLK.out w p S0 (newK pub sec seed (rulesL rl)) w2.heap.size (.slice none 0 0) (w2.alloc (.cells #[.int .i64 seed, .int .i64 0, .slice none 0 0] 55))) := by
      have e2 := Sep.add (i := risI w.heap.size w2.heap.size (.slice none 0 0) seed 0 []) HD2.out (below_new w2 (.cells #[.int .i64 seed, .int .i64 0, .slice none 0 0] 55)) ⟨blk_new _ _, Own.nil _ _ _, by simp [Value.ownBlock], HD2.out.hb, b3, by omega, by omega⟩ (fun b hb => by
        rcases hb with h | h
        · omega
        · cases h)
      exact e2.perm (List.Perm.swap _ _ _)
    have HP0 : Hid ((newK pub sec seed (rulesL rl)).pub = pub ∧ (newK pub sec seed (rulesL rl)).sec = sec ∧ (newK pub sec seed (rulesL rl)).rl = rulesL rl ∧ (newK pub sec seed (rulesL rl)).n = 0) := ⟨rfl, rfl, rfl, rfl⟩
    clear HD2 b1 b2 b3
    go_wp2
    generalize w2.heap.size = g at *
    generalize newK pub sec seed (rulesL rl) = s0 at *
    go_loopw [21, 23, 24, 25, 26, 27, 28, 29, 30, 31, 32, 33, 34, 35] (fun _ s23 s24 s25 _ _ _ _ _ _ _ _ _ _ wr => ∃ (i j : Nat) (v : Value) (S : Nat → Prop) (s : KS), i ≤ n4 ∧ i ≤ 60 ∧ j ≤ i ∧ s23 = .int .i64 s.n ∧ s24 = .int .i64 j ∧ s25 = .int .i64 i ∧ Hid (Duo HLK.out w p S s g v wr) ∧ Hid (s.pub = pub ∧ s.sec = sec ∧ s.rl = rulesL rl)) (fun _ _ _ s25 _ _ _ _ _ _ _ _ _ _ _ => 60 - (intOf s25).toNat)
    case atStart => exact ⟨0, 0, _, S0, s0, by omega, by omega, by omega, by rw [HP0.out.2.2.2], rfl, rfl, HD3.out, ⟨HP0.out.1, HP0.out.2.1, HP0.out.2.2.1⟩⟩
    case round =>
      obtain ⟨i, j, v, S, s, hi, h60, hj, rfl, rfl, rfl, HD, HP⟩ := hrel
      clear HD3 HP0
      have HOK := hide (HLK.out.ok HD.out.k)
      by_cases hlt : i < n4 ∧ i < 60
      · obtain ⟨hin, hi60⟩ := hlt
        have hinz : (i : Int) < n4 := by omega
        have hi60z : (i : Int) < 60 := by omega
        obtain ⟨y, hy⟩ : ∃ y, ds[i]? = some y := ⟨ds[i]'(by have := HN4.out; omega), List.getElem?_eq_getElem (by have := HN4.out; omega)⟩
        obtain ⟨b4, o4, rfl, hcell⟩ : ∃ b off, a4 = some ⟨b, off, none⟩ ∧ wr.cell? ⟨b, off + i, none⟩ = some (.int .i64 y) := by
          rcases HR4.out.below HD.out.lo with h | ⟨b, off, h1, h2⟩
          · rw [h] at hy; simp at hy
          · exact ⟨b, off, h1, h2 i y hy⟩
        clear hy
        by_cases hy0 : y = 0
        · subst hy0
          by_cases hfull : fullK s
          · have RI := hide (fun (W : World) (h : NonRef.RIs W w.heap.size g s.la s.mn v s.xs) => NonRef.issue_full g v s.la s.mn s.xs W w.heap.size h hfull)
            have PI := hide (fun (W : World) (h : Kpr W w.heap.size p S s) => HAN.out p S s W w.heap.size h hfull)
            clear hfull
            go_wp2_with (fail)
            refine (RI.out _ HD.out.m).mono ?_
            rintro e w3 ⟨rfl, hw⟩
            rw [hw]
            clear hw RI
            go_wp2_with (fail)
            refine (PI.out _ HD.out.k).mono ?_
            rintro e w4 ⟨rfl, hb4⟩
            have HD4 := hide (HD.out.below hb4)
            clear hb4 HD PI hcell
            go_wp2_with (fail)
            refine (As.same_err 4 4 _ (HH.out _ HD4.out.lo)).mono ?_
            rintro e w5 ⟨rfl, hb5⟩
            have HD5 := hide (HD4.out.below hb5)
            clear hb5 HD4
            go_wp2_with (fail)
            refine (sep_given HGN.out HD5.out).mono ?_
            rintro e w6 ⟨rfl, hd6⟩
            have HD6 : Hid (Duo HLK.out w p S s g v w6) := hd6
            clear hd6 HD5
            go_wp2
            go_roundw
            case rel => exact ⟨i + 1, j, v, S, s, by omega, by omega, by omega, rfl, rfl, by go_num, HD6.out, HP.out⟩
            case measure => simp [intOf]; omega
          · have h8 : s.xs.length < 8 := by unfold fullK at hfull; omega
            have h30 : s.mn < 30 := by unfold fullK at hfull; omega
            have RI := hide (fun (W : World) (h : NonRef.RIs W w.heap.size g s.la s.mn v s.xs) (hb : w.heap.size ≤ W.heap.size) => NonRef.issue_ok g v s.la s.mn s.xs W w.heap.size h h8 h30 hb)
            have HFU := hide hfull
            clear hfull h8 h30
            have HNX : Hid (stp 7919 s.la s.mn = stp 7919 s.la s.mn) := rfl
            go_wp2_with (fail)
            refine (RI.out _ HD.out.m HD.out.hb).mono ?_
            rintro e w3 ⟨v3, rfl, hm3, ho3, hf3⟩
            have HD3 := hide (Sep.step1 (i' := risI w.heap.size g v3 (stp 7919 s.la s.mn) (s.mn + 1) (s.xs ++ [stp 7919 s.la s.mn])) HD.out hm3 ho3 hf3)
            clear hm3 ho3 hf3 HD hcell RI
            go_wp2_with (fail)
            refine (sep_ask HAO.out HD3.out HFU.out).mono ?_
            rintro e w4 ⟨S4, rfl, hd4⟩
            have HD4 : Hid (Duo HLK.out w p S4 (askT s) g v3 w4) := hd4
            clear hd4 HD3 HFU
            have hN : (askT s).n = s.n := rfl
            have HP4 : Hid ((askT s).pub = pub ∧ (askT s).sec = sec ∧ (askT s).rl = rulesL rl) := HP.out
            generalize stp 7919 s.la s.mn = nx at *
            generalize askT s = s1 at *
            go_wp2_with (fail)
            refine (As.same_nil _ _).mono ?_
            rintro e w5 ⟨rfl, hw⟩
            rw [hw]
            clear hw
            have GI := hide (sep_given HGN.out HD4.out)
            rw [hN] at GI
            go_wp2_with (fail)
            refine GI.out.mono ?_
            rintro e w6 ⟨rfl, hd6⟩
            have HD6 : Hid (Duo HLK.out w p S4 s1 g v3 w6) := hd6
            have HN1 := hide hN
            clear hd6 HD4 GI hN
            go_wp2
            go_roundw
            case rel => exact ⟨i + 1, j, v3, S4, s1, by omega, by omega, by omega, by rw [HN1.out], rfl, by go_num, HD6.out, HP4.out⟩
            case measure => simp [intOf]; omega
        · have hqz := HD.out.hb
          obtain ⟨qb, hqb⟩ : ∃ qb, qb = wr.heap.size := ⟨_, rfl⟩
          have hq : w.heap.size ≤ qb := by rw [hqb]; exact hqz
          have HQB := hide hqb
          have HM := hide (show ∀ q, Trio HLK.out w p S s g v s.xs qb hq q (wr.alloc (quoO q)) from fun q => by subst hqb; exact HD.out.more _)
          have HX30 : Hid (s.xs.length ≤ 30) := Nat.le_trans HOK.out.2.2.2.2.2.1 (by omega)
          have hlo := HD.out.lo
          clear hqb hqz
          go_upto_if 108 with (fail)
          rw [← HQB.out]
          go_cut [108] from 72 to 163 (fun _ w' => ∃ (q0 q1 q2 q3 q4 : Int), Hid (Trio HLK.out w p S s g v s.xs qb hq (q0, q1, q2, q3, q4) w'))
          case first =>
            by_cases h5 : j < n5
            · have h5z : (j : Int) < n5 := by omega
              obtain ⟨⟨q0, q1, q2, q3, q4⟩, hx⟩ : ∃ y, qs[j]? = some y := ⟨qs[j]'(by have := HN5.out; omega), List.getElem?_eq_getElem (by have := HN5.out; omega)⟩
              obtain ⟨b5, o5, rfl, hc5⟩ := quo_at HR5.out hx
              obtain ⟨c0, c1, c2, c3, c4⟩ := hc5 _ (below_on hlo (below_new wr (.cells #[.int .i64 0, .int .i64 0, .int .i64 0, .int .i64 0, .int .i64 0] 34)))
              have hT0 := HM.out (0, 0, 0, 0, 0)
              have HT0 := hide hT0
              have hB0 : (wr.alloc (.cells #[.int .i64 0, .int .i64 0, .int .i64 0, .int .i64 0, .int .i64 0] 34)).heap[qb]? = some (.cells #[.int .i64 0, .int .i64 0, .int .i64 0, .int .i64 0, .int .i64 0] 34) := hT0.b
              have HB0 := hide hB0
              obtain ⟨z0, z1, z2, z3, z4⟩ := quin_cells hB0
              obtain ⟨f0, f1, f2, f3, f4⟩ := quin_free hB0
              clear hx hc5 hT0 hB0
              go_wp2
              rw [quin_set HB0.out]
              go_meet
              exact ⟨q0, q1, q2, q3, q4, Sep.step2 (i' := blkI w.heap.size qb hq (quoO (q0, q1, q2, q3, q4))) HT0.out (setRow_heap _ _ _ _ _ _ HT0.out.b) ((Only.refl (fun k => k = qb) _).setRow (b := qb) rfl _) (fun k hk => Or.inl hk)⟩
            · have h5z : ¬ (j : Int) < n5 := by omega
              go_wp2
              go_meet
              exact ⟨0, 0, 0, 0, 0, HM.out (0, 0, 0, 0, 0)⟩
          case rest =>
          obtain ⟨q0, q1, q2, q3, q4, HT⟩ := hcut
          clear HM HD hcell hlo
          obtain ⟨wa, hwa⟩ : ∃ wa, wa = wc := ⟨_, rfl⟩
          subst hwa
          have hlo := HT.out.lo
          go_upto_if 116 with (fail)
          go_cut [31, 116] from 72 to 163 (fun s31 _ w' => ∃ (a : Option Addr) (es : List (Int × Int)) (n cap : Nat), s31 = .slice a n cap ∧ Hid (n = es.length ∧ n ≤ maxLen ∧ RRow 2 evV w a es) ∧ Hid (Trio HLK.out w p S s g v s.xs qb hq (q0, q1, q2, q3, q4) w'))
          case first =>
            by_cases h6 : j < n6
            · have h6z : (j : Int) < n6 := by omega
              obtain ⟨⟨vv, es⟩, hx⟩ : ∃ y, ess[j]? = some y := ⟨ess[j]'(by have := HN6.out; omega), List.getElem?_eq_getElem (by have := HN6.out; omega)⟩
              obtain ⟨b6, o6, ad, cap, rfl, rfl, hl6, hr6, hc6⟩ := evs_at HR6.out hx
              have c0 := hc6 _ hlo
              have H6 := hide hl6
              have H7 := hide hr6
              clear hx hc6 hl6 hr6
              go_wp2
              go_meet
              exact ⟨ad, es, es.length, cap, rfl, ⟨rfl, H6.out, H7.out⟩, HT⟩
            · have h6z : ¬ (j : Int) < n6 := by omega
              go_wp2
              go_meet
              exact ⟨none, [], 0, 0, rfl, ⟨rfl, (by unfold maxLen; omega), RRow.nil _ _⟩, HT⟩
          case rest =>
          obtain ⟨ea, es, en, ec, rfl, HES, HT2⟩ := hcut
          clear HT hlo
          have hj1 : (j : Int) + 1 ≤ 61 := by omega
          obtain ⟨x0, x1, x2, x3, x4⟩ := quin_cells HT2.out.b
          by_cases hin2 : q0 ∈ s.xs
          · have RU := hide (fun (W : World) (h : NonRef.RIs W w.heap.size g s.la s.mn v s.xs) (hb : w.heap.size ≤ W.heap.size) => ruse_ok g v s.la s.mn q0 s.xs W w.heap.size h HX30.out hb hin2)
            have HGE := hide (show givE s (q0, q1, q2, q3, q4) es = surE pub (q0, q1, q2, q3, q4) q0 es (rulesL rl) by rw [givE_in (q := (q0, q1, q2, q3, q4)) hin2, HP.out.1, HP.out.2.2])
            have SR1 := hide (SR.out (q0, q1, q2, q3, q4) q0 ea es en ec HES.out.1 HES.out.2.1 HES.out.2.2)
            unfold quoC at SR1
            simp only [] at SR1
            generalize surE pub (q0, q1, q2, q3, q4) q0 es (rulesL rl) = se at *
            clear hin2
            go_wp2_with (fail)
            refine (RU.out _ HT2.out.m HT2.out.hb).mono ?_
            rintro e w3 ⟨v3, rfl, hm3, ho3, hf3⟩
            have HT3 : Hid (Trio HLK.out w p S s g v3 (s.xs.erase q0) qb hq (q0, q1, q2, q3, q4) w3) := Sep.step1 (i' := risI w.heap.size g v3 s.la s.mn (s.xs.erase q0)) HT2.out hm3 ho3 hf3
            clear hm3 ho3 hf3 HT2 RU x0 x1 x2 x3 x4
            obtain ⟨x0, x1, x2, x3, x4⟩ := quin_cells HT3.out.b
            go_wp2_with (fail)
            refine (SR1.out _ HT3.out.lo).mono ?_
            rintro e w4 ⟨rfl, hb4⟩
            have HT4 := hide (HT3.out.below hb4)
            clear hb4 HT3 SR1 x0 x1 x2 x3 x4
            obtain ⟨x0, x1, x2, x3, x4⟩ := quin_cells HT4.out.b
            have GI := hide (sep_give (its := [risI w.heap.size g v3 s.la s.mn (s.xs.erase q0), blkI w.heap.size qb hq (quoO (q0, q1, q2, q3, q4))]) HGV.out HT4.out (q0, q1, q2, q3, q4) ea es en ec HES.out.1 HES.out.2.1 HES.out.2.2)
            have hsn := HOK.out.2.2.2.2.2.2.1
            have hsm : s.n ≤ 30 := by have := HOK.out.2.2.2.2.1; have := HOK.out.2.2.2.2.2.2.2.1; omega
            have HPG : Hid ((givT s (q0, q1, q2, q3, q4) es).pub = pub ∧ (givT s (q0, q1, q2, q3, q4) es).sec = sec ∧ (givT s (q0, q1, q2, q3, q4) es).rl = rulesL rl) := HP.out
            by_cases h0 : se = 0
            · have e1 := HGE.out
              rw [h0] at e1
              have e2 : givV s (q0, q1, q2, q3, q4) es = sec := by unfold givV; rw [if_pos e1]; exact HP.out.2.1
              have e3 : (givT s (q0, q1, q2, q3, q4) es).n = s.n + 1 := by show s.n + (if givE s (q0, q1, q2, q3, q4) es = 0 then 1 else 0) = s.n + 1; rw [if_pos e1]
              rw [e1, e2, errV_zero] at GI
              have HE3 := hide e3
              clear e1 e2 e3 HGE
              subst h0
              go_wp2_with (fail)
              refine GI.out.mono ?_
              rintro e w5 ⟨S5, rfl, hd5⟩
              have HD5 : Hid (Duo HLK.out w p S5 (givT s (q0, q1, q2, q3, q4) es) g v3 w5) := Trio.less (q := (q0, q1, q2, q3, q4)) hd5
              clear hd5 GI HT4 x0 x1 x2 x3 x4
              generalize givT s (q0, q1, q2, q3, q4) es = s2 at *
              go_wp2_with (fail)
              refine (As.same_nil _ _).mono ?_
              rintro e w6 ⟨rfl, hw⟩
              rw [hw]
              clear hw
              have GI2 := hide (sep_given HGN.out HD5.out)
              rw [HE3.out] at GI2
              go_wp2_with (fail)
              refine GI2.out.mono ?_
              rintro e w7 ⟨rfl, hd7⟩
              have HD7 : Hid (Duo HLK.out w p S5 s2 g v3 w7) := hd7
              clear hd7 HD5 GI2
              go_wp2
              go_roundw
              case rel => exact ⟨i + 1, j + 1, v3, S5, s2, by omega, by omega, by omega, by rw [HE3.out], by go_num, by go_num, HD7.out, HPG.out⟩
              case measure => simp [intOf]; omega
            · have e1 := HGE.out
              have e2 : givV s (q0, q1, q2, q3, q4) es = 0 := by unfold givV; rw [if_neg (by rw [e1]; exact h0)]
              have e3 : (givT s (q0, q1, q2, q3, q4) es).n = s.n := by show s.n + (if givE s (q0, q1, q2, q3, q4) es = 0 then 1 else 0) = s.n; rw [if_neg (by rw [e1]; exact h0)]; omega
              rw [e1, e2, errV_no h0] at GI
              have HE3 := hide e3
              clear e1 e2 e3 HGE
              go_wp2_with (fail)
              refine GI.out.mono ?_
              rintro e w5 ⟨S5, rfl, hd5⟩
              have HD5 : Hid (Duo HLK.out w p S5 (givT s (q0, q1, q2, q3, q4) es) g v3 w5) := Trio.less (q := (q0, q1, q2, q3, q4)) hd5
              clear hd5 GI HT4 x0 x1 x2 x3 x4
              generalize givT s (q0, q1, q2, q3, q4) es = s2 at *
              go_wp2_with (fail)
              refine (As.same_err se se _ (HH.out _ HD5.out.lo)).mono ?_
              rintro e w6 ⟨rfl, hb6⟩
              have HD6 := hide (HD5.out.below hb6)
              clear hb6 HD5
              have GI2 := hide (sep_given HGN.out HD6.out)
              rw [HE3.out] at GI2
              go_wp2_with (fail)
              refine GI2.out.mono ?_
              rintro e w7 ⟨rfl, hd7⟩
              have HD7 : Hid (Duo HLK.out w p S5 s2 g v3 w7) := hd7
              clear hd7 HD6 GI2
              go_wp2
              go_roundw
              case rel => exact ⟨i + 1, j + 1, v3, S5, s2, by omega, by omega, by omega, by rw [HE3.out], by go_num, by go_num, HD7.out, HPG.out⟩
              case measure => simp [intOf]; omega
          · have RU := hide (fun (W : World) (h : NonRef.RIs W w.heap.size g s.la s.mn v s.xs) (hb : w.heap.size ≤ W.heap.size) => ruse_no g v s.la s.mn q0 s.xs W w.heap.size h HX30.out hb hin2)
            have e1 := givE_out (q := (q0, q1, q2, q3, q4)) (es := es) hin2
            have e2 := givV_out (q := (q0, q1, q2, q3, q4)) (es := es) hin2
            have e3 := givT_out (q := (q0, q1, q2, q3, q4)) (es := es) hin2
            have GI := hide (fun W (h : Trio HLK.out w p S s g v s.xs qb hq (q0, q1, q2, q3, q4) W) => sep_give (its := [risI w.heap.size g v s.la s.mn s.xs, blkI w.heap.size qb hq (quoO (q0, q1, q2, q3, q4))]) HGV.out h (q0, q1, q2, q3, q4) ea es en ec HES.out.1 HES.out.2.1 HES.out.2.2)
            rw [e1, e2, e3] at GI
            clear hin2 e1 e2 e3
            go_wp2_with (fail)
            refine (RU.out _ HT2.out.m HT2.out.hb).mono ?_
            rintro e w3 ⟨rfl, hw⟩
            rw [hw]
            clear hw RU
            go_wp2_with (fail)
            refine (GI.out _ HT2.out).mono ?_
            rintro e w5 ⟨S5, rfl, hd5⟩
            have HD5 : Hid (Duo HLK.out w p S5 s g v w5) := Trio.less (q := (q0, q1, q2, q3, q4)) hd5
            clear hd5 GI HT2 x0 x1 x2 x3 x4
            go_wp2_with (fail)
            refine (As.same_err 5 5 _ (HH.out _ HD5.out.lo)).mono ?_
            rintro e w6 ⟨rfl, hb6⟩
            have HD6 := hide (HD5.out.below hb6)
            clear hb6 HD5
            go_wp2_with (fail)
            refine (sep_given HGN.out HD6.out).mono ?_
            rintro e w7 ⟨rfl, hd7⟩
            have HD7 : Hid (Duo HLK.out w p S5 s g v w7) := hd7
            clear hd7 HD6
            go_wp2
            go_roundw
            case rel => exact ⟨i + 1, j + 1, v, S5, s, by omega, by omega, by omega, rfl, by go_num, by go_num, HD7.out, HP.out⟩
            case measure => simp [intOf]; omega
      · by_cases hin : i < n4
        · have hinz : (i : Int) < n4 := by omega
          have hi60z : ¬ (i : Int) < 60 := by omega
          clear hlt
          go_wp2
          go_ret
          exact ⟨rfl, HD.out.lo⟩
        · have hinz : ¬ (i : Int) < n4 := by omega
          clear hlt
          go_wp2
          go_ret
          exact ⟨rfl, HD.out.lo⟩
  · cases hc : (inB pub && (isM sec && isM seed)) with
    | true =>
      rw [kprE_rul hc] at hE
      have NO1 := hide (fun (W : World) (hb : Below w.heap.size w W) => NO.out W hb (by rw [kprE_rul hc]; exact hE))
      rw [kprE_rul hc] at NO1
      simp only [Bool.and_eq_true] at hc
      obtain ⟨b1, b2, b3⟩ := hc
      have HE := hide hE
      clear NO NW hE
      generalize rulesE (rulesL rl) = re at *
      go_enter Tryd.func5, Tryd.ntmps5
      go_wp2_with (first
        | (go_at_call 16; refine (Ref.in_any _ _).mono ?_; rintro e w ⟨rfl, rfl⟩)
        | (go_at_call 17; refine (Ref.is_any _ _).mono ?_; rintro e w ⟨rfl, rfl⟩))
      refine (RR.out _ (Below.refl _ _)).mono ?_
      rintro e w1 ⟨rfl, hb1⟩
      have HB1 := hide hb1
      clear hb1 RR
      go_wp2_with (fail)
      refine (NO1.out _ HB1.out).mono ?_
      rintro e w2 ⟨rfl, hb2⟩
      have HB2 := hide (below_on HB1.out hb2)
      clear hb2 HB1 NO1
      go_wp2_with (fail)
      refine (As.same_is _ _ _ rfl (HH.out _ HB2.out)).mono ?_
      rintro e w3 ⟨rfl, hb3⟩
      have HB3 := hide (below_on HB2.out hb3)
      clear hb3 HB2
      have hne := HE.out
      go_wp2
      go_ret
      exact ⟨rfl, HB3.out⟩
    | false =>
      have NO1 := hide (fun (W : World) (hb : Below w.heap.size w W) => NO.out W hb hE)
      rw [kprE_no hc, errV_one] at NO1
      clear NO NW hE RR
      go_enter Tryd.func5, Tryd.ntmps5
      go_upto_region 5 with (first
        | (go_at_call 16; refine (Ref.in_any _ _).mono ?_; rintro e w ⟨rfl, rfl⟩)
        | (go_at_call 17; refine (Ref.is_any _ _).mono ?_; rintro e w ⟨rfl, rfl⟩))
      generalize inB pub = c1 at *
      generalize isM sec = c2 at *
      generalize isM seed = c3 at *
      go_cut [16, 17, 18, 37, 39, 41, 48] (fun _ _ _ _ _ _ s48 w' => s48 = .bool false ∧ w' = w)
      case first =>
        cases c1 <;> cases c2 <;> cases c3
        case true.true.true => cases hc
        all_goals
          go_wp2
          go_meet
          exact ⟨rfl, rfl⟩
      case rest =>
      obtain ⟨rfl, hw⟩ := hcut
      rw [hw]
      clear hw
      go_wp2_with (fail)
      refine (NO1.out _ (Below.refl _ _)).mono ?_
      rintro e w2 ⟨rfl, hb2⟩
      have HB2 := hide hb2
      clear hb2 NO1
      go_wp2_with (fail)
      refine (As.same_err 1 1 _ (HH.out _ HB2.out)).mono ?_
      rintro e w3 ⟨rfl, hb3⟩
      have HB3 := hide (below_on HB2.out hb3)
      clear hb3 HB2
      go_wp2
      go_ret
      exact ⟨rfl, HB3.out⟩
end Go.Proofs.YtidnjnhmkhekeaaDoor.KeeperPlays
