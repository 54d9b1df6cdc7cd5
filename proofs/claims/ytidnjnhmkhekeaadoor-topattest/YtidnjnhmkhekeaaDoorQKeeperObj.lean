/-
  Contracts of package keeper's New, Ask, Give and Given over this translation: what each returns, what becomes of the keeper, and that all else stays as it was.
-/
import Derived.Test.YtidnjnhmkhekeaaDoorQKeeperLaw
import Derived.Test.YtidnjnhmkhekeaaDoorQKeeperCopy
import Derived.Test.YtidnjnhmkhekeaaDoorQJudgeObj
import Derived.Test.YtidnjnhmkhekeaaDoorQNonce2
import Derived.Test.YtidnjnhmkhekeaaDoorPack1
namespace Go.Proofs.YtidnjnhmkhekeaaDoor.Keeper
open Go.ChangeShapes Go.WideShapes Go.ChangeAt Go.RowKit
open Go.Proofs.YtidnjnhmkhekeaaDoor.M
set_option linter.unusedVariables false

/-- Rules in memory of blocks R: they can be read wherever these blocks are as they were. -/
def RK (W : World) (B : Nat) (R : Nat → Prop) (rv : Value) (rl : List (Int × List Int)) : Prop :=
  ∃ ar nr cr l, rv = .slice ar nr cr ∧ nr = l.length ∧ nr ≤ 8 ∧ nr ≤ cr ∧ rulesL l = rl ∧ (∀ k, R k → B ≤ k ∧ k < W.heap.size) ∧ ∀ W' : World, (∀ k, R k → W'.heap[k]? = W.heap[k]?) → RulesIn W' ar l
theorem RK.only {W W' : World} {B : Nat} {R T : Nat → Prop} {rv : Value} {rl : List (Int × List Int)} (h : RK W B R rv rl) (ho : Only T W W') (hn : ∀ k, R k → ¬ T k) : RK W' B R rv rl := by
  obtain ⟨ar, nr, cr, l, h1, h2, h3, h4, h5, h6, h7⟩ := h
  exact ⟨ar, nr, cr, l, h1, h2, h3, h4, h5, fun k hk => ⟨(h6 k hk).1, Nat.lt_of_lt_of_le (h6 k hk).2 ho.size⟩, fun W'' hW => h7 W'' (fun k hk => (hW k hk).trans (ho.2.2.2.2 k (h6 k hk).2 (hn k hk)))⟩
theorem RK.below {W W' : World} {B : Nat} {R : Nat → Prop} {rv : Value} {rl : List (Int × List Int)} (h : RK W B R rv rl) (hb : Below W.heap.size W W') : RK W' B R rv rl :=
  h.only (Only.of_below (S := fun _ => False) hb) (fun _ _ hf => hf)
/-- What clone makes. -/
theorem rk_of {w w' : World} {B : Nat} {l : List (Int × Value × List Int)} {v : Value} (h : Copied w l v w') (hB : B ≤ w.heap.size) (hE : rulesE (rulesL l) = 0) :
    ∃ R : Nat → Prop, RK w' B R v (rulesL l) ∧ (∀ k, R k → w.heap.size ≤ k) := by
  obtain ⟨l', B1, ho, hrl, hg, hB1, hb⟩ := h
  obtain ⟨h8, hF⟩ := rulesE_zero hE
  have hall := (rules_regs _ _ hF).1
  have h12 : ∀ x ∈ l', x.2.2.length ≤ 12 := by
    intro x hx
    have hm : (x.1, x.2.2) ∈ rulesL l := by rw [← hrl]; exact List.mem_map.2 ⟨x, hx, rfl⟩
    have := (hall _ hm).2.2.1
    simp only [] at this
    omega
  have hl8 : l'.length ≤ 8 := by rw [← rulesL_len l', hrl]; omega
  refine ⟨fun k => v.ownBlock = some k ∨ ∃ x ∈ l', x.2.1.ownBlock = some k, ?_, ?_⟩
  · obtain ⟨ar, cap, hv, _, _⟩ := ho.row ruleV_len
    have hcap : l'.length ≤ cap := (ownR_cap (hv ▸ ho)).2.1
    refine ⟨ar, l'.length, cap, l', hv, rfl, hl8, hcap, hrl, ?_, ?_⟩
    · rintro k (hk | ⟨x, hx, hk⟩)
      · exact ⟨Nat.le_trans hB (ho.block k hk), ownR_lt ho k hk⟩
      · exact ⟨Nat.le_trans hB (Nat.le_trans hB1 ((hg x hx).block k hk)), (hg x hx).lt k hk⟩
    · intro W' hW
      refine ⟨?_, ?_⟩
      · have ho' := ownR_eq (W' := W') ho (fun k hk => hW k (Or.inl hk))
        obtain ⟨ar2, cap2, hv2, _, hr2⟩ := ho'.row ruleV_len
        rw [hv] at hv2
        cases hv2
        exact hr2
      · intro x hx
        have := own_good (r := x.1) (own_eq (W' := W') (hg x hx) (fun k hk => hW k (Or.inr ⟨x, hx, hk⟩))) (h12 x hx)
        exact this
  · rintro k (hk | ⟨x, hx, hk⟩)
    · exact ho.block k hk
    · exact Nat.le_trans hB1 ((hg x hx).block k hk)

/-- The blocks of a keeper that lies at g. -/
def feet (g : Nat) (SN R : Nat → Prop) (k : Nat) : Prop := k = g ∨ SN k ∨ R k
/-- A keeper in memory. -/
def KIs (W : World) (B g : Nat) (np rv : Value) (SN R : Nat → Prop) (s : KS) : Prop :=
  W.heap[g]? = some (.cells #[.int .i64 s.pub, .int .i64 s.sec, np, rv, .int .i64 s.n] 84) ∧ Nonce.Non W B np SN s.la s.mn s.xs ∧ RK W B R rv s.rl ∧ ¬ SN g ∧ ¬ R g ∧ (∀ k, SN k → ¬ R k) ∧ B ≤ g
def Kpr (W : World) (B : Nat) (p : Value) (S : Nat → Prop) (s : KS) : Prop :=
  ∃ g np rv SN R, p = .pointer (some ⟨g, 0, none⟩) ∧ S = feet g SN R ∧ KIs W B g np rv SN R s ∧ OkK s
section Ki
variable {W W' : World} {B g : Nat} {np rv : Value} {SN R T : Nat → Prop} {s : KS} {p : Value} {S : Nat → Prop}
theorem KIs.only (h : KIs W B g np rv SN R s) (ho : Only T W W') (hn : ∀ k, feet g SN R k → ¬ T k) : KIs W' B g np rv SN R s := by
  obtain ⟨h1, h2, h3, h4⟩ := h
  exact ⟨ho.heap h1 (hn g (Or.inl rfl)), h2.only ho (fun k hk => hn k (Or.inr (Or.inl hk))), h3.only ho (fun k hk => hn k (Or.inr (Or.inr hk))), h4⟩
theorem KIs.below (h : KIs W B g np rv SN R s) (hb : Below W.heap.size W W') : KIs W' B g np rv SN R s := h.only (Only.of_below (S := fun _ => False) hb) (fun _ _ hf => hf)
theorem Kpr.has (h : Kpr W B p S s) : ∀ k, S k → B ≤ k ∧ k < W.heap.size := by
  obtain ⟨g, np, rv, SN, R, _, rfl, ⟨h1, h2, h3, _, _, _, h7⟩, _⟩ := h
  rintro k (rfl | hk | hk)
  · exact ⟨h7, blk_lt h1⟩
  · exact h2.has k hk
  · obtain ⟨_, _, _, _, _, _, _, _, _, h6, _⟩ := h3
    exact h6 k hk
theorem Kpr.only (h : Kpr W B p S s) (ho : Only T W W') (hn : ∀ k, S k → ¬ T k) : Kpr W' B p S s := by
  obtain ⟨g, np, rv, SN, R, hp, rfl, hi, hk⟩ := h
  exact ⟨g, np, rv, SN, R, hp, rfl, hi.only ho hn, hk⟩
end Ki

set_option maxHeartbeats 2000000 in
theorem new_no (pub sec seed : Int) (ar : Option Addr) (rl : List (Int × Value × List Int)) (nr cr : Nat) (w : World) (hn : nr = rl.length) (hm : nr ≤ maxLen) (hc : nr ≤ cr) (hr : RulesIn w ar rl) (hE : ¬ kprE pub sec seed (rulesL rl) = 0) :
    Calls Tryd.prog 7 #[.int .i64 pub, .int .i64 sec, .int .i64 seed, .slice ar nr cr] w fun e w' => e = .returned (.tuple #[.pointer none, errV 77 (kprE pub sec seed (rulesL rl))]) ∧ Below w.heap.size w w' := by
  have HP := hide (fun W => Key.public_is pub W)
  have HS := hide (fun W => Measure.is_any sec W)
  have HNO := hide (fun W h => Nonce.new_no seed W h)
  have HNY := hide (fun W h => Nonce.new_ok seed W 0 h (Nat.zero_le _))
  have HC := hide (fun (W : World) (h : Below w.heap.size w W) => Rule.check_any ar rl nr cr W hn hm hc (hr.below h))
  have K1 := hide (fun h => kprE_no (pub := pub) (sec := sec) (seed := seed) (rl := rulesL rl) h)
  have K2 := hide (fun h => kprE_rul (pub := pub) (sec := sec) (seed := seed) (rl := rulesL rl) h)
  clear hn hm hc hr
  generalize kprE pub sec seed (rulesL rl) = ke at *
  generalize rulesE (rulesL rl) = re at *
  generalize inB pub = b1 at *
  generalize isM sec = b2 at *
  generalize isM seed = b3 at *
  cases b1 with
  | false =>
    have E := hide (K1.out rfl)
    clear K1 K2 hE
    go_enter Tryd.func7, Tryd.ntmps7
    go_wp2_with (go_at_call 26; refine (HP.out _).mono ?_; rintro e w1 ⟨rfl, hw⟩; rw [hw]; clear hw)
    go_ret2
    exact ⟨by rw [E.out]; rfl, Below.refl _ _⟩
  | true =>
    cases b2 with
    | false =>
      have E := hide (K1.out rfl)
      clear K1 K2 hE
      go_enter Tryd.func7, Tryd.ntmps7
      go_wp2_with (first | (go_at_call 26; refine (HP.out _).mono ?_; rintro e w1 ⟨rfl, hw⟩; rw [hw]; clear hw) | (go_at_call 27; refine (HS.out _).mono ?_; rintro e w1 ⟨rfl, hw⟩; rw [hw]; clear hw))
      go_ret2
      exact ⟨by rw [E.out]; rfl, Below.refl _ _⟩
    | true =>
      cases b3 with
      | false =>
        have E := hide (K1.out rfl)
        clear K1 K2 hE
        go_enter Tryd.func7, Tryd.ntmps7
        go_wp2_with (first | (go_at_call 26; refine (HP.out _).mono ?_; rintro e w1 ⟨rfl, hw⟩; rw [hw]; clear hw) | (go_at_call 27; refine (HS.out _).mono ?_; rintro e w1 ⟨rfl, hw⟩; rw [hw]; clear hw))
        refine (HNO.out _ (by trivial)).mono ?_
        rintro e w1 ⟨rfl, hb1⟩
        have HB1 := hide hb1
        clear hb1 HNO HNY
        go_wp2
        go_ret2
        exact ⟨by rw [E.out]; rfl, HB1.out⟩
      | true =>
        have E := hide (K2.out rfl)
        have HEN := hide hE
        clear K1 K2 hE
        go_enter Tryd.func7, Tryd.ntmps7
        go_wp2_with (first | (go_at_call 26; refine (HP.out _).mono ?_; rintro e w1 ⟨rfl, hw⟩; rw [hw]; clear hw) | (go_at_call 27; refine (HS.out _).mono ?_; rintro e w1 ⟨rfl, hw⟩; rw [hw]; clear hw))
        refine (HNY.out _ (by trivial)).mono ?_
        rintro e w1 ⟨p, S, rfl, hN, hS, hb1⟩
        have HB1 := hide hb1
        obtain ⟨g, v, rfl, _⟩ := hN
        clear hb1 HNO HNY hS
        go_wp2_with (fail)
        refine (HC.out _ HB1.out).mono ?_
        rintro e w2 ⟨rfl, hb2⟩
        have HB2 := hide (below_on HB1.out hb2)
        clear hb2 HC
        have HX := hide (errV_not (T := 77) (show ¬ re = 0 from fun h => HEN.out (by rw [E.out]; exact h)))
        rw [HX.out]
        go_wp2
        go_ret2
        exact ⟨by rw [E.out, HX.out]; rfl, HB2.out⟩

set_option maxHeartbeats 2000000 in
theorem new_yes (pub sec seed : Int) (ar : Option Addr) (rl : List (Int × Value × List Int)) (nr cr : Nat) (w : World) (B : Nat) (hn : nr = rl.length) (hm : nr ≤ maxLen) (hc : nr ≤ cr) (hr : RulesIn w ar rl) (hE : kprE pub sec seed (rulesL rl) = 0) (hB : B ≤ w.heap.size) :
    Calls Tryd.prog 7 #[.int .i64 pub, .int .i64 sec, .int .i64 seed, .slice ar nr cr] w fun e w' => ∃ p S, e = .returned (.tuple #[p, .nilIface]) ∧ p ≠ .pointer none ∧ Kpr w' B p S (newK pub sec seed (rulesL rl)) ∧ (∀ b, S b → w.heap.size ≤ b) ∧ Below w.heap.size w w' := by
  obtain ⟨e1, e2, e3, e4⟩ := kprE_zero hE
  have HOK := hide (newK_ok hE)
  obtain ⟨h8, hF⟩ := rulesE_zero e4
  have hall := (rules_regs _ _ hF).1
  have h12 : ∀ x ∈ rl, x.2.2.length ≤ 12 := by
    intro x hx
    have := (hall (x.1, x.2.2) (List.mem_map.2 ⟨x, hx, rfl⟩)).2.2.1
    simp only [] at this
    omega
  have hn8 : nr ≤ 8 := by rw [hn, ← rulesL_len rl]; omega
  have HP := hide (fun W => Key.public_is pub W)
  have HS := hide (fun W => Measure.is_any sec W)
  rw [e1] at HP
  rw [e2] at HS
  have HNY := hide (fun W (h : B ≤ W.heap.size) => Nonce.new_ok seed W B e3 h)
  have HC := hide (fun (W : World) (h : Below w.heap.size w W) => Rule.check_any ar rl nr cr W hn hm hc (hr.below h))
  rw [e4, errV_zero] at HC
  have CL := hide (fun (W : World) (h : Below w.heap.size w W) => clone_any ar rl nr cr W hn hn8 (hr.below h) h12)
  have RO := hide (fun (W W' : World) (v : Value) (h : Copied W rl v W') (h2 : B ≤ W.heap.size) => rk_of h h2 e4)
  have HBB := hide hB
  clear hn hm hc hr hE e1 e2 e3 e4 h8 hF hall h12 hn8 hB
  go_enter Tryd.func7, Tryd.ntmps7
  go_wp2_with (first | (go_at_call 26; refine (HP.out _).mono ?_; rintro e w1 ⟨rfl, hw⟩; rw [hw]; clear hw) | (go_at_call 27; refine (HS.out _).mono ?_; rintro e w1 ⟨rfl, hw⟩; rw [hw]; clear hw))
  refine (HNY.out _ HBB.out).mono ?_
  rintro e w1 ⟨np, SN, rfl, hN, hS, hb1⟩
  have HB1 := hide hb1
  have HN1 := hide hN
  have HS1 := hide hS
  obtain ⟨g1, v1, rfl, _⟩ := hN
  clear hb1 HNY hS
  go_wp2_with (fail)
  refine (HC.out _ HB1.out).mono ?_
  rintro e w2 ⟨rfl, hb2⟩
  have HB2 := hide (below_on HB1.out hb2)
  have HN2 := hide (HN1.out.below hb2)
  have HZ2 := hide hb2.size
  clear hb2 HC
  go_wp2_with (fail)
  refine (CL.out _ HB2.out).mono ?_
  rintro e w3 ⟨rv, rfl, hcp⟩
  obtain ⟨R, hRK, hR⟩ := RO.out _ _ _ hcp (Nat.le_trans HBB.out HB2.out.size)
  have hb3 : Below w2.heap.size w2 w3 := by obtain ⟨_, _, _, _, _, _, hb⟩ := hcp; exact hb
  have hRK' := hRK
  obtain ⟨ar', nr', cr', l', rfl, z1, z2, z3, z4, hRl, z5⟩ := hRK'
  have HB3 := hide (below_on HB2.out hb3)
  have HN3 := hide (HN2.out.below hb3)
  have HK : Hid (Kpr (w3.alloc (.cells #[.int .i64 pub, .int .i64 sec, .pointer (some ⟨g1, 0, none⟩), .slice ar' nr' cr', .int .i64 0] 84)) B (.pointer (some ⟨w3.heap.size, 0, none⟩)) (feet w3.heap.size SN R) (newK pub sec seed (rulesL rl))) := by
    have hbn := below_new w3 (.cells #[.int .i64 pub, .int .i64 sec, .pointer (some ⟨g1, 0, none⟩), .slice ar' nr' cr', .int .i64 0] 84)
    refine ⟨w3.heap.size, _, _, SN, R, rfl, rfl, ⟨blk_new _ _, HN3.out.below hbn, hRK.below hbn, ?_, ?_, ?_, Nat.le_trans HBB.out HB3.out.size⟩, HOK.out⟩
    · intro h; have := (HN3.out.has _ h).2; omega
    · intro h; have := (hRl _ h).2; omega
    · intro k h1 h2
      have h3 := (HN1.out.has k h1).2
      have h4 := hR k h2
      have := HZ2.out
      omega
  have HF : Hid (∀ b, feet w3.heap.size SN R b → w.heap.size ≤ b) := by
    rintro b (rfl | h | h)
    · exact HB3.out.size
    · exact HS1.out b h
    · exact Nat.le_trans HB2.out.size (hR b h)
  have HB4 := hide (below_on HB3.out (below_new w3 (.cells #[.int .i64 pub, .int .i64 sec, .pointer (some ⟨g1, 0, none⟩), .slice ar' nr' cr', .int .i64 0] 84)))
  clear hcp hRK hR hb3 hRl z1 z2 z3 z4 z5 HN1 HN2 HN3 HS1 CL RO
  go_wp2
  go_ret2
  exact ⟨_, _, rfl, by simp, HK.out, HF.out, HB4.out⟩

theorem core : Core Kpr where
  has := fun h => h.has
  only := fun h ho hn => h.only ho hn
  ok := fun h => by obtain ⟨_, _, _, _, _, _, _, _, hk⟩ := h; exact hk
  newNo := new_no
  new := new_yes

set_option maxHeartbeats 2000000 in
theorem askNo : AskNo Kpr := by
  intro p S s w B h hf
  obtain ⟨g, np, rv, SN, R, rfl, rfl, ⟨h1, h2, h3, _⟩, _⟩ := h
  have IS := hide (fun W (h : Nonce.Non W B np SN s.la s.mn s.xs) => Nonce.issue_full np SN s.la s.mn s.xs W B h hf)
  have HN := hide h2
  obtain ⟨gn, vn, hnp, _⟩ := h2
  subst hnp
  obtain ⟨_, _, _, _, hrv, _⟩ := h3
  subst hrv
  obtain ⟨r0, r1, r2, r3, r4⟩ := quin_cells h1
  clear h1 hf
  go_enter Tryd.func8, Tryd.ntmps8
  go_wp2_with (fail)
  refine (IS.out _ HN.out).mono ?_
  rintro e w1 ⟨rfl, hb1⟩
  have HB1 := hide hb1
  clear hb1
  go_wp2
  go_ret2
  exact ⟨rfl, HB1.out⟩
set_option maxHeartbeats 2000000 in
theorem askOk : AskOk Kpr := by
  intro p S s w B h hf hB
  have hok := core.ok h
  obtain ⟨g, np, rv, SN, R, rfl, rfl, ⟨h1, h2, h3, h4, h5, h6, h7⟩, h8⟩ := h
  have hf' := hf
  unfold fullK at hf'
  have IS := hide (fun W (h : Nonce.Non W B np SN s.la s.mn s.xs) (hW : B ≤ W.heap.size) => Nonce.issue_ok np SN s.la s.mn s.xs W B h (by omega) (by omega) hW)
  have HN := hide h2
  have HG := hide h1
  have HR := hide h3
  have HBB := hide hB
  have HD := hide h6
  have H4 := hide h4
  have H5 := hide h5
  have H7 := hide h7
  have HOK := hide (askT_ok hok hf)
  have hgl := blk_lt h1
  have HRR : Hid (∀ k, R k → k < w.heap.size) := by
    obtain ⟨_, _, _, _, _, _, _, _, _, hh, _⟩ := h3
    exact fun k hk => (hh k hk).2
  obtain ⟨gn, vn, hnp, _⟩ := h2
  subst hnp
  obtain ⟨ar, nr, cr, _, hrv, _⟩ := h3
  subst hrv
  obtain ⟨r0, r1, r2, r3, r4⟩ := quin_cells h1
  clear h1 hf hf' hok h4 h5 h6 h7 h8 hB
  go_enter Tryd.func8, Tryd.ntmps8
  go_wp2_with (fail)
  refine (IS.out _ HN.out HBB.out).mono ?_
  rintro e w1 ⟨SN', rfl, hN1, ho1, hf1⟩
  have HK : Hid (Kpr w1 B (.pointer (some ⟨g, 0, none⟩)) (feet g SN' R) (askT s)) :=
    ⟨g, _, _, SN', R, rfl, rfl, ⟨ho1.heap HG.out H4.out, hN1, HR.out.only ho1 (fun k hk hs => HD.out k hs hk), (fun hs => (hf1 g hs).elim H4.out (fun h => by omega)), H5.out, (fun k hs hr => (hf1 k hs).elim (fun h => HD.out k h hr) (fun h => by have := HRR.out k hr; omega)), H7.out⟩, HOK.out⟩
  have HO : Hid (Only (feet g SN R) w w1) := (Only.refl (feet g SN R) w).trans ho1 (fun k _ h => Or.inr (Or.inl h))
  have HF : Hid (∀ b, feet g SN' R b → feet g SN R b ∨ w.heap.size ≤ b) := by
    rintro b (h | h | h)
    · exact Or.inl (Or.inl h)
    · exact (hf1 b h).elim (fun h => Or.inl (Or.inr (Or.inl h))) Or.inr
    · exact Or.inl (Or.inr (Or.inr h))
  clear hN1 ho1 hf1 HN HG HR HD H4 H5 H7 HRR IS r0 r1 r2 r3 r4
  go_wp2
  go_ret2
  exact ⟨_, rfl, HK.out, HO.out, HF.out⟩
set_option maxHeartbeats 2000000 in
theorem givenLaw : GivenLaw Kpr := by
  intro p S s w B h
  obtain ⟨g, np, rv, SN, R, rfl, rfl, ⟨h1, h2, h3, _⟩, _⟩ := h
  obtain ⟨gn, vn, hnp, _⟩ := h2
  subst hnp
  obtain ⟨_, _, _, _, hrv, _⟩ := h3
  subst hrv
  obtain ⟨r0, r1, r2, r3, r4⟩ := quin_cells h1
  clear h1
  go_enter Tryd.func11, Tryd.ntmps11
  go_wp2
  go_ret
  exact ⟨rfl, Below.refl _ _⟩
theorem quin_last {w : World} {b : Nat} {a0 a1 a2 a3 a4 z : Value} {t : TypeId} {fr : Nat × Nat} (hg : w.heap[b]? = some (.cells #[a0, a1, a2, a3, a4] t fr)) : w.setCell ⟨b, 4, none⟩ z = w.setRow b #[a0, a1, a2, a3, z] := by
  rw [setCell_eq_setRow w b 4 _ _ _ z hg]
  rfl
/-- While Give asks: the keeper, and the quote that was handed in, lie where they were. -/
def GX (g qb : Nat) (pub sec n : Int) (np rv : Value) (q0 q1 q2 q3 q4 : Int) (W : World) : Prop :=
  W.heap[g]? = some (.cells #[.int .i64 pub, .int .i64 sec, np, rv, .int .i64 n] 84) ∧ W.heap[qb]? = some (.cells #[.int .i64 q0, .int .i64 q1, .int .i64 q2, .int .i64 q3, .int .i64 q4] 34)
section Gx
variable {g qb : Nat} {pub sec n : Int} {np rv : Value} {q0 q1 q2 q3 q4 : Int} {W W' : World}
theorem gx_drew (h : GX g qb pub sec n np rv q0 q1 q2 q3 q4 W) : GX g qb pub sec n np rv q0 q1 q2 q3 q4 W.drew := h
theorem gx_use (h : GX g qb pub sec n np rv q0 q1 q2 q3 q4 W) : W.cell? ⟨g, 2, none⟩ = some np ∧ W.cell? ⟨qb, 0, none⟩ = some (.int .i64 q0) := ⟨(quin_cells h.1).2.2.1, (quin_cells h.2).1⟩
theorem gx_sure (h : GX g qb pub sec n np rv q0 q1 q2 q3 q4 W) : (W.cell? ⟨g, 0, none⟩ = some (.int .i64 pub) ∧ W.cell? ⟨g, 3, none⟩ = some rv) ∧ (W.cell? ⟨qb, 0, none⟩ = some (.int .i64 q0) ∧ W.cell? ⟨qb, 1, none⟩ = some (.int .i64 q1) ∧ W.cell? ⟨qb, 2, none⟩ = some (.int .i64 q2) ∧ W.cell? ⟨qb, 3, none⟩ = some (.int .i64 q3) ∧ W.cell? ⟨qb, 4, none⟩ = some (.int .i64 q4)) := ⟨⟨(quin_cells h.1).1, (quin_cells h.1).2.2.2.1⟩, quin_cells h.2⟩
end Gx
/-- Ahead of Use. -/
def UD (w : World) (B g : Nat) (np rv : Value) (SN R : Nat → Prop) (s : KS) (q0 q1 q2 q3 q4 : Int) (W : World) : Prop :=
  Below w.heap.size w W ∧ KIs W B g np rv SN R s ∧ W.heap[w.heap.size]? = some (.cells #[.int .i64 q0, .int .i64 q1, .int .i64 q2, .int .i64 q3, .int .i64 q4] 34)
/-- Behind it. -/
def VD (w : World) (B g : Nat) (np rv : Value) (SN SN' R : Nat → Prop) (s : KS) (q0 q1 q2 q3 q4 : Int) (W : World) : Prop :=
  Only (feet g SN R) w W ∧ KIs W B g np rv SN' R { s with xs := s.xs.erase q0 } ∧ W.heap[w.heap.size]? = some (.cells #[.int .i64 q0, .int .i64 q1, .int .i64 q2, .int .i64 q3, .int .i64 q4] 34) ∧ (∀ k, R k → W.heap[k]? = w.heap[k]?) ∧ (∀ k, SN' k → SN k ∨ w.heap.size ≤ k)
section Ud
variable {w W W' : World} {B g : Nat} {np rv : Value} {SN SN' R : Nat → Prop} {s : KS} {q0 q1 q2 q3 q4 : Int}
theorem ud_drew (h : UD w B g np rv SN R s q0 q1 q2 q3 q4 W) : UD w B g np rv SN R s q0 q1 q2 q3 q4 W.drew := ⟨Below.drew h.1, h.2.1.below (Below.drew (Below.refl _ _)), h.2.2⟩
theorem ud_gx (h : UD w B g np rv SN R s q0 q1 q2 q3 q4 W) : GX g w.heap.size s.pub s.sec s.n np rv q0 q1 q2 q3 q4 W := ⟨h.2.1.1, h.2.2⟩
theorem vd_gx (h : VD w B g np rv SN SN' R s q0 q1 q2 q3 q4 W) : GX g w.heap.size s.pub s.sec s.n np rv q0 q1 q2 q3 q4 W := ⟨h.2.1.1, h.2.2.1⟩
theorem vd_below (hR : ∀ k, R k → k < w.heap.size) (h : VD w B g np rv SN SN' R s q0 q1 q2 q3 q4 W) (hb : Below W.heap.size W W') : VD w B g np rv SN SN' R s q0 q1 q2 q3 q4 W' :=
  ⟨h.1.after hb, h.2.1.below hb, blk_below h.2.2.1 hb, fun k hk => (hb.block k (Nat.lt_of_lt_of_le (hR k hk) h.1.size)).trans (h.2.2.2.1 k hk), h.2.2.2.2⟩
theorem vd_drew (h : VD w B g np rv SN SN' R s q0 q1 q2 q3 q4 W) : VD w B g np rv SN SN' R s q0 q1 q2 q3 q4 W.drew := ⟨h.1.drew, h.2.1.below (Below.drew (Below.refl _ _)), h.2.2⟩
theorem vd_kpr (h : VD w B g np rv SN SN' R s q0 q1 q2 q3 q4 W) (hk : OkK { s with xs := s.xs.erase q0 }) : Kpr W B (.pointer (some ⟨g, 0, none⟩)) (feet g SN' R) { s with xs := s.xs.erase q0 } := ⟨g, np, rv, SN', R, rfl, rfl, h.2.1, hk⟩
theorem vd_foot (h : VD w B g np rv SN SN' R s q0 q1 q2 q3 q4 W) : ∀ b, feet g SN' R b → feet g SN R b ∨ w.heap.size ≤ b := by
  rintro b (hb | hb | hb)
  · exact Or.inl (Or.inl hb)
  · exact (h.2.2.2.2 b hb).elim (fun h => Or.inl (Or.inr (Or.inl h))) Or.inr
  · exact Or.inl (Or.inr (Or.inr hb))
/-- Once it is given. -/
theorem vd_more (h : VD w B g np rv SN SN' R s q0 q1 q2 q3 q4 W) (hk : OkK { s with xs := s.xs.erase q0, n := s.n + 1 }) :
    Kpr (W.setCell ⟨g, 4, none⟩ (.int .i64 (s.n + 1))) B (.pointer (some ⟨g, 0, none⟩)) (feet g SN' R) { s with xs := s.xs.erase q0, n := s.n + 1 } ∧ Only (feet g SN R) w (W.setCell ⟨g, 4, none⟩ (.int .i64 (s.n + 1))) := by
  obtain ⟨h1, ⟨k1, k2, k3, k4, k5, k6, k7⟩, h3, h4, h5⟩ := h
  have ho : Only (fun k => k = g) W (W.setCell ⟨g, 4, none⟩ (.int .i64 (s.n + 1))) := (Only.refl (fun k => k = g) W).setCell (p := ⟨g, 4, none⟩) rfl _
  refine ⟨⟨g, np, rv, SN', R, rfl, rfl, ⟨?_, k2.only ho (fun k hk e => k4 (by rw [← e]; exact hk)), k3.only ho (fun k hk e => k5 (by rw [← e]; exact hk)), k4, k5, k6, k7⟩, hk⟩, h1.setCell (p := ⟨g, 4, none⟩) (Or.inl rfl) _⟩
  rw [quin_last k1]
  exact setRow_heap _ _ _ _ _ _ k1
end Ud
/-- What Use does, ahead of the rest. -/
theorem use_vd {w : World} {B g : Nat} {np rv : Value} {SN R : Nat → Prop} {s : KS} {q0 q1 q2 q3 q4 : Int} (hB : B ≤ w.heap.size) (hS : ∀ k, SN k → k < w.heap.size) (hR : ∀ k, R k → k < w.heap.size) (hl : s.xs.length ≤ 30) (hq : q0 ∈ s.xs) (W : World) (h : UD w B g np rv SN R s q0 q1 q2 q3 q4 W) :
    Calls Tryd.prog 35 #[np, .int .i64 q0] W fun e w' => ∃ SN', e = .returned .nilIface ∧ VD w B g np rv SN SN' R s q0 q1 q2 q3 q4 w' := by
  obtain ⟨h1, ⟨k1, k2, k3, k4, k5, k6, k7⟩, h3⟩ := h
  refine (Nonce.use_ok np SN s.la s.mn s.xs q0 W B k2 hl hq (Nat.le_trans hB h1.size)).mono ?_
  rintro e w' ⟨SN', rfl, hN, ho, hf⟩
  have hgl := blk_lt k1
  have hf' : ∀ k, SN' k → SN k ∨ w.heap.size ≤ k := fun k hk => (hf k hk).imp id (fun h => Nat.le_trans h1.size h)
  refine ⟨SN', rfl, ?_, ⟨ho.heap k1 k4, hN, k3.only ho (fun k hk hs => k6 k hs hk), ?_, k5, ?_, k7⟩, ho.heap h3 (fun hs => absurd (hS _ hs) (Nat.lt_irrefl _)), ?_, hf'⟩
  · exact (Only.of_below (S := feet g SN R) h1).trans ho (fun k _ hs => Or.inr (Or.inl hs))
  · exact fun hs => (hf g hs).elim k4 (fun h => absurd hgl (by omega))
  · exact fun k hs hr => (hf k hs).elim (fun h => k6 k h hr) (fun h => by have := hR k hr; have := h1.size; omega)
  · exact fun k hk => (ho.2.2.2.2 k (Nat.lt_of_lt_of_le (hR k hk) h1.size) (fun hs => k6 k hs hk)).trans (h1.block k (hR k hk))

set_option maxHeartbeats 4000000 in
theorem give_no (g : Nat) (np rv : Value) (SN R : Nat → Prop) (s : KS) (q0 q1 q2 q3 q4 : Int) (a : Option Addr) (n cap : Nat) (w : World) (B : Nat) (h : KIs w B g np rv SN R s) (hl : s.xs.length ≤ 30) (hq : q0 ∉ s.xs) :
    Calls Tryd.prog 10 #[.pointer (some ⟨g, 0, none⟩), .agg #[.int .i64 q0, .int .i64 q1, .int .i64 q2, .int .i64 q3, .int .i64 q4], .slice a n cap] w fun e w' => e = .returned (.tuple #[.int .i64 0, .iface 77 (.int .i64 5)]) ∧ Below w.heap.size w w' := by
  have US := hide (fun W (h : UD w B g np rv SN R s q0 q1 q2 q3 q4 W) => Nonce.use_no np SN s.la s.mn s.xs q0 W B h.2.1.2.1 hl hq)
  have hb0 := below_new w (.cells #[.int .i64 q0, .int .i64 q1, .int .i64 q2, .int .i64 q3, .int .i64 q4] 34)
  have hU : UD w B g np rv SN R s q0 q1 q2 q3 q4 (w.alloc (.cells #[.int .i64 q0, .int .i64 q1, .int .i64 q2, .int .i64 q3, .int .i64 q4] 34)) := ⟨hb0, h.below hb0, blk_new w _⟩
  have hX := ud_gx hU
  have HXU := hide (fun W (hW : UD w B g np rv SN R s q0 q1 q2 q3 q4 W) (W' : World) (hb : Below W.heap.size W W') => show GX g w.heap.size s.pub s.sec s.n np rv q0 q1 q2 q3 q4 W' ∧ Below w.heap.size w W' from ⟨⟨blk_below hW.2.1.1 hb, blk_below hW.2.2 hb⟩, below_on hW.1 hb⟩)
  obtain ⟨gn, vn, hnp, _⟩ := h.2.1
  subst hnp
  obtain ⟨c2, c0⟩ := gx_use hX
  clear h hl hq hb0
  go_enter Tryd.func10, Tryd.ntmps10
  go_wp2_with (fail)
  go_region_held3 (fun W => W.cell? ⟨g, 2, none⟩ = some (.pointer (some ⟨gn, 0, none⟩)) ∧ W.cell? ⟨w.heap.size, 0, none⟩ = some (.int .i64 q0))
    (exact gx_use (by with_reducible repeat (first | assumption | apply gx_drew)))
    ((go_at_call 35; refine (US.out _ (by with_reducible repeat (first | assumption | apply ud_drew))).mono ?_; rintro e w5 ⟨rfl, hb5⟩; obtain ⟨hX5, hbw5⟩ := HXU.out _ (by with_reducible repeat (first | assumption | apply ud_drew)) _ hb5; clear hb5; obtain ⟨c52, c50⟩ := gx_use hX5))
  have HB5 := hide hbw5
  clear hbw5 hX5 hX hU c2 c0 c52 c50
  go_wp2
  go_ret2
  exact ⟨rfl, HB5.out⟩
/-- What Give leaves. -/
def Gave (w : World) (B g : Nat) (SN R : Nat → Prop) (V E : Int) (t : KS) (e : Ending) (w' : World) : Prop :=
  ∃ S', e = .returned (.tuple #[.int .i64 V, errV 77 E]) ∧ Kpr w' B (.pointer (some ⟨g, 0, none⟩)) S' t ∧ Only (feet g SN R) w w' ∧ (∀ b, S' b → feet g SN R b ∨ w.heap.size ≤ b)
set_option maxHeartbeats 4000000 in
theorem give_yes (g : Nat) (np rv : Value) (SN R : Nat → Prop) (s : KS) (q0 q1 q2 q3 q4 : Int) (a : Option Addr) (es : List (Int × Int)) (n cap : Nat) (w : World) (B : Nat) (h : KIs w B g np rv SN R s) (hk : OkK s) (hq : q0 ∈ s.xs) (hn : n = es.length) (hm : n ≤ maxLen) (hr : ∀ W, Only (feet g SN R) w W → RRow 2 evV W a es) (hB : B ≤ w.heap.size) :
    Calls Tryd.prog 10 #[.pointer (some ⟨g, 0, none⟩), .agg #[.int .i64 q0, .int .i64 q1, .int .i64 q2, .int .i64 q3, .int .i64 q4], .slice a n cap] w (Gave w B g SN R (if surE s.pub (q0, q1, q2, q3, q4) q0 es s.rl = 0 then s.sec else 0) (surE s.pub (q0, q1, q2, q3, q4) q0 es s.rl) { s with n := s.n + (if surE s.pub (q0, q1, q2, q3, q4) q0 es s.rl = 0 then 1 else 0), xs := s.xs.erase q0 }) := by
  have hk' := hk
  obtain ⟨_, _, _, k4, k5, k6, k7, k8, _⟩ := hk'
  have hpos : 0 < s.xs.length := List.length_pos_of_mem hq
  have hel : (s.xs.erase q0).length = s.xs.length - 1 := List.length_erase_of_mem hq
  have HK1 : Hid (OkK { s with xs := s.xs.erase q0, n := s.n + 1 }) := by
    obtain ⟨j1, j2, j3, j4, j5, j6, j7, j8, j9⟩ := hk
    exact ⟨j1, j2, j3, j4, j5, by show (s.xs.erase q0).length ≤ 8; omega, by show 0 ≤ s.n + 1; omega, by show s.n + 1 + ((s.xs.erase q0).length : Nat) ≤ s.mn; omega, j9⟩
  have HK0 : Hid (OkK { s with xs := s.xs.erase q0 }) := by
    obtain ⟨j1, j2, j3, j4, j5, j6, j7, j8, j9⟩ := hk
    exact ⟨j1, j2, j3, j4, j5, by show (s.xs.erase q0).length ≤ 8; omega, j7, by show s.n + ((s.xs.erase q0).length : Nat) ≤ s.mn; omega, j9⟩
  have hn0 : 0 ≤ s.n := k7
  have hn1 : s.n ≤ 30 := by omega
  have hSl : ∀ k, SN k → k < w.heap.size := fun k hk => (h.2.1.has k hk).2
  obtain ⟨ar, nr, cr, l, hrv, e1, e2, e3, e4, e5, e6⟩ := h.2.2.1
  have hRl : ∀ k, R k → k < w.heap.size := fun k hk => (e5 k hk).2
  have US := hide (fun W => use_vd (B := B) (g := g) (np := np) (rv := rv) (q1 := q1) (q2 := q2) (q3 := q3) (q4 := q4) hB hSl hRl (by omega) hq W)
  have SU := hide (fun (SN' : Nat → Prop) (W : World) (h : VD w B g np rv SN SN' R s q0 q1 q2 q3 q4 W) => Judge.sureLaw s.pub (q0, q1, q2, q3, q4) q0 a es n cap ar l nr cr W hn hm (hr W h.1) e1 (by unfold maxLen; omega) e3 (e6 W h.2.2.2.1))
  rw [e4] at SU
  have VB := hide (fun (SN' : Nat → Prop) (W W' : World) (h : VD w B g np rv SN SN' R s q0 q1 q2 q3 q4 W) (hb : Below W.heap.size W W') => vd_below hRl h hb)
  have hb0 := below_new w (.cells #[.int .i64 q0, .int .i64 q1, .int .i64 q2, .int .i64 q3, .int .i64 q4] 34)
  have hU : UD w B g np rv SN R s q0 q1 q2 q3 q4 (w.alloc (.cells #[.int .i64 q0, .int .i64 q1, .int .i64 q2, .int .i64 q3, .int .i64 q4] 34)) := ⟨hb0, h.below hb0, blk_new w _⟩
  have hX := ud_gx hU
  obtain ⟨gn, vn, hnp, _⟩ := h.2.1
  subst hnp
  subst hrv
  obtain ⟨c2, c0⟩ := gx_use hX
  simp only [] at SU
  generalize surE s.pub (q0, q1, q2, q3, q4) q0 es s.rl = sE at *
  have YV := hide (fun (h : sE = 0) => show (if sE = 0 then s.sec else 0) = s.sec from if_pos h)
  have NV := hide (fun (h : ¬ sE = 0) => show (if sE = 0 then s.sec else 0) = 0 from if_neg h)
  have YT := hide (fun (h : sE = 0) => show ({ s with n := s.n + (if sE = 0 then 1 else 0), xs := s.xs.erase q0 } : KS) = { s with xs := s.xs.erase q0, n := s.n + 1 } by rw [if_pos h])
  have NT := hide (fun (h : ¬ sE = 0) => show ({ s with n := s.n + (if sE = 0 then 1 else 0), xs := s.xs.erase q0 } : KS) = { s with xs := s.xs.erase q0 } by rw [if_neg h, Int.add_zero])
  generalize (if sE = 0 then s.sec else 0) = V at *
  generalize ({ s with n := s.n + (if sE = 0 then 1 else 0), xs := s.xs.erase q0 } : KS) = t at *
  clear h hk hq hb0 hn hm hr hB k4 k5 k6 k7 k8 hpos hel hSl hRl e1 e2 e3 e4 e5 e6
  go_enter Tryd.func10, Tryd.ntmps10
  go_wp2_with (fail)
  go_region_held3 (fun W => W.cell? ⟨g, 2, none⟩ = some (.pointer (some ⟨gn, 0, none⟩)) ∧ W.cell? ⟨w.heap.size, 0, none⟩ = some (.int .i64 q0))
    (exact gx_use (by with_reducible repeat (first | assumption | apply gx_drew)))
    ((go_at_call 35; refine (US.out _ (by with_reducible repeat (first | assumption | apply ud_drew))).mono ?_; rintro e w5 ⟨SN', rfl, hV5⟩; have hX5 := vd_gx hV5; obtain ⟨c52, c50⟩ := gx_use hX5))
  clear hX hU c2 c0 c52 c50 US
  obtain ⟨⟨d0, d3⟩, ⟨p0, p1, p2, p3, p4⟩⟩ := gx_sure hX5
  go_wp2_with (fail)
  go_region_held3 (fun W => (W.cell? ⟨g, 0, none⟩ = some (.int .i64 s.pub) ∧ W.cell? ⟨g, 3, none⟩ = some (.slice ar nr cr)) ∧ (W.cell? ⟨w.heap.size, 0, none⟩ = some (.int .i64 q0) ∧ W.cell? ⟨w.heap.size, 1, none⟩ = some (.int .i64 q1) ∧ W.cell? ⟨w.heap.size, 2, none⟩ = some (.int .i64 q2) ∧ W.cell? ⟨w.heap.size, 3, none⟩ = some (.int .i64 q3) ∧ W.cell? ⟨w.heap.size, 4, none⟩ = some (.int .i64 q4)))
    (exact gx_sure (by with_reducible repeat (first | assumption | apply gx_drew)))
    ((go_at_call 15; refine (SU.out SN' _ (by with_reducible repeat (first | assumption | apply vd_drew))).mono ?_; rintro e w6 ⟨rfl, hb6⟩; have hV6 := VB.out SN' _ _ (by with_reducible repeat (first | assumption | apply vd_drew)) hb6; clear hb6; have hX6 := vd_gx hV6; obtain ⟨⟨d60, d63⟩, ⟨p60, p61, p62, p63, p64⟩⟩ := gx_sure hX6))
  clear d0 d3 p0 p1 p2 p3 p4 d60 d63 p60 p61 p62 p63 p64 SU VB
  have HF := hide (vd_foot hV6)
  by_cases hE : sE = 0
  · have E1 := hide (YV.out hE)
    have E2 := hide (YT.out hE)
    clear YV YT NV NT
    subst hE
    rw [errV_zero]
    obtain ⟨hKm, hOm⟩ := vd_more hV6 HK1.out
    have HKm := hide hKm
    have HOm := hide hOm
    obtain ⟨t0, t1, t2, t3, t4⟩ := quin_cells hX6.1
    have f4 := (quin_free hX6.1).2.2.2.2
    clear hKm hOm hV5 hX5 hV6 hX6
    go_wp2
    go_ret2
    exact ⟨_, by rw [E1.out]; rfl, by rw [E2.out]; exact HKm.out, HOm.out, HF.out⟩
  · have HX := hide (errV_not (T := 77) hE)
    rw [HX.out]
    have E1 := hide (NV.out hE)
    have E2 := hide (NT.out hE)
    clear YV YT NV NT
    have HKp := hide (vd_kpr hV6 HK0.out)
    have HOp := hide hV6.1
    clear hE hV5 hX5 hV6 hX6
    go_wp2
    go_ret2
    exact ⟨_, by rw [E1.out, HX.out]; rfl, by rw [E2.out]; exact HKp.out, HOp.out, HF.out⟩
theorem giveLaw : GiveLaw Kpr := by
  intro p S s q a es n cap w B h hn hm hr hB
  obtain ⟨g, np, rv, SN, R, rfl, rfl, hi, hk⟩ := h
  obtain ⟨q0, q1, q2, q3, q4⟩ := q
  have hl : s.xs.length ≤ 30 := by obtain ⟨_, _, _, _, _, k6, _⟩ := hk; omega
  by_cases hq : q0 ∈ s.xs
  · have := give_yes g np rv SN R s q0 q1 q2 q3 q4 a es n cap w B hi hk hq hn hm hr hB
    unfold givV givT givE
    simp only []
    rw [if_pos hq]
    exact this
  · refine (give_no g np rv SN R s q0 q1 q2 q3 q4 a n cap w B hi hl hq).mono ?_
    rintro e w' ⟨rfl, hb⟩
    rw [givV_out (q := (q0, q1, q2, q3, q4)) hq, givE_out (q := (q0, q1, q2, q3, q4)) hq, givT_out (q := (q0, q1, q2, q3, q4)) hq]
    exact ⟨feet g SN R, rfl, ⟨g, np, rv, SN, R, rfl, rfl, hi.below hb, hk⟩, Only.of_below hb, fun b hb => Or.inl hb⟩
end Go.Proofs.YtidnjnhmkhekeaaDoor.Keeper
