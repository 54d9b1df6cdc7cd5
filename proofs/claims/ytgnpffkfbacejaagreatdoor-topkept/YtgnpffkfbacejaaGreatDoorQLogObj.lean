/-
  What package log's New, Raise, Sync, Fail, Crash, Least, Bytes and Safe do to its object over this translation.
-/
import Derived.Test.YtgnpffkfbacejaaGreatDoorQLogFull
import Derived.Test.YtgnpffkfbacejaaGreatDoorQLogCrash
namespace Go.Proofs.YtgnpffkfbacejaaGreatDoor.Log
open Go.ChangeShapes Go.WideShapes Go.ChangeAt Go.RowKit
open Go.Proofs.YtgnpffkfbacejaaGreatDoor.M
set_option linter.unusedVariables false

/-- The program's log. -/
def Lg (W : World) (B : Nat) (p : Value) (S : Nat → Prop) (j : LS) : Prop :=
  ∃ g cp SC kv bs tl ah, p = .pointer (some ⟨g, 0, none⟩) ∧ S = ft g SC kv ∧ LIs W B g cp SC kv bs j.safe ah j.stop j.f j.k ∧ bs = recsL j.rs ++ tl ∧ tl.length = j.half ∧ (10 : UInt8) ∉ tl ∧ AllR j.rs ∧ OkL j ∧ j.fail = (if ah < 0 then -1 else ah) ∧ ah ≤ 9223372036854775807
theorem Lg.has {W : World} {B : Nat} {p : Value} {S : Nat → Prop} {j : LS} (h : Lg W B p S j) : ∀ b, S b → B ≤ b ∧ b < W.heap.size := by
  obtain ⟨g, cp, SC, kv, bs, tl, ah, rfl, rfl, h, _⟩ := h
  exact h.has
theorem Lg.only {W W' : World} {B : Nat} {p : Value} {S T : Nat → Prop} {j : LS} (h : Lg W B p S j) (ho : Only T W W') (hn : ∀ b, S b → ¬ T b) : Lg W' B p S j := by
  obtain ⟨g, cp, SC, kv, bs, tl, ah, rfl, rfl, h, r⟩ := h
  exact ⟨g, cp, SC, kv, bs, tl, ah, rfl, rfl, h.only ho hn, r⟩
theorem Lg.ok {W : World} {B : Nat} {p : Value} {S : Nat → Prop} {j : LS} (h : Lg W B p S j) : OkL j := by
  obtain ⟨g, cp, SC, kv, bs, tl, ah, _, _, _, _, _, _, _, h, _⟩ := h
  exact h
/-- How many bytes there are. -/
theorem bytes_len {bs tl : List UInt8} {j : LS} (hbs : bs = recsL j.rs ++ tl) (ht : tl.length = j.half) (hA : AllR j.rs) : bs.length = j.bytes := by
  rw [hbs, List.length_append, recs_len hA, ht]
  rfl
theorem kv_form {W : World} {B : Nat} {kv : Value} {bs : List UInt8} (h : Byt W B kv bs) : ∃ a c, kv = .slice a bs.length c := by
  rcases h.form with ⟨rfl, rfl⟩ | ⟨_, _, rfl, _⟩
  · exact ⟨none, 0, rfl⟩
  · exact ⟨_, _, rfl⟩

set_option maxHeartbeats 2000000 in
theorem new_any (w : World) (B : Nat) (hB : B ≤ w.heap.size) : Calls Tryz.prog 5 #[] w fun e w' => ∃ p S, e = .returned p ∧ Lg w' B p S newL ∧ (∀ b, S b → w.heap.size ≤ b) ∧ Below w.heap.size w w' := by
  have HC := hide (Count.core.new w B hB)
  go_enter Tryz.func5, Tryz.ntmps5
  go_wp2_with (go_at_call 21; refine HC.out.mono ?_; rintro e w1 ⟨cp, SC, rfl, hC, hS, hb1⟩; obtain ⟨g1, m1, hg1, _⟩ := id hC; subst hg1)
  go_ret
  have hbn := below_new w1 (.cells #[.pointer (some ⟨g1, 0, none⟩), .slice none 0 0, .int .i64 0, .int .i64 (-1), .bool false] 62)
  have hs1 := hb1.size
  refine ⟨_, ft w1.heap.size SC (.slice none 0 0), rfl, ⟨w1.heap.size, _, SC, .slice none 0 0, [], [], -1, rfl, rfl, ⟨blk_new _ _, by omega, Count.core.below hC hbn, World.ownsRow_nil _ _ _ _, fun h => ?_, fun h => (by cases h), fun b h => (by cases h)⟩, rfl, rfl, (by simp), fun r h => (by cases h), okL_new, rfl, (by omega)⟩, ?_, below_on hb1 hbn⟩
  · have := (Count.core.has hC _ h).2
    omega
  · rintro b (h | h | h)
    · omega
    · exact hS b h
    · cases h
theorem core : Core Lg := ⟨fun h => h.has, fun h => h.only, fun h => h.ok, new_any⟩

set_option maxHeartbeats 2000000 in
theorem leastLaw : LeastLaw Lg := by
  rintro p S j nm w B ⟨g, cp, SC, kv, bs, tl, ah, rfl, rfl, h, _⟩ hl
  have HL := hide (Count.leastLaw cp SC j.f j.k nm w B h.cnt hl)
  obtain ⟨r0, r1, r2, r3, r4⟩ := quin_cells h.blk
  obtain ⟨g1, m1, hg1, _⟩ := h.cnt
  subst hg1
  clear h
  obtain ⟨ev, hev⟩ : ∃ ev, errV 63 (leaE nm) = ev := ⟨_, rfl⟩
  rw [hev] at HL ⊢
  clear hev
  generalize leaV j.f nm = z at *
  go_enter Tryz.func9, Tryz.ntmps9
  go_wp2_with (go_at_call 30; refine HL.out.mono ?_; rintro e w1 ⟨rfl, hb1⟩)
  go_ret2
  exact ⟨rfl, hb1⟩
set_option maxHeartbeats 2000000 in
theorem bytesLaw : BytesLaw Lg := by
  rintro p S j w B ⟨g, cp, SC, kv, bs, tl, ah, rfl, rfl, h, hbs, ht, _, hA, _⟩
  have hbl := bytes_len hbs ht hA
  obtain ⟨ka, kc, rfl⟩ := kv_form h.byt
  obtain ⟨r0, r1, r2, r3, r4⟩ := quin_cells h.blk
  rw [hbl] at r1
  clear h hbs ht hA hbl
  generalize j.bytes = n at *
  go_enter Tryz.func10, Tryz.ntmps10
  go_wp2
  go_ret
  exact ⟨rfl, Below.refl _ _⟩
set_option maxHeartbeats 2000000 in
theorem safeLaw : SafeLaw Lg := by
  rintro p S j w B ⟨g, cp, SC, kv, bs, tl, ah, rfl, rfl, h, _⟩
  obtain ⟨r0, r1, r2, r3, r4⟩ := quin_cells h.blk
  clear h
  go_enter Tryz.func11, Tryz.ntmps11
  go_wp2
  go_ret
  exact ⟨rfl, Below.refl _ _⟩
set_option maxHeartbeats 2000000 in
theorem failLaw : FailLaw Lg := by
  rintro p S j n w B ⟨g, cp, SC, kv, bs, tl, ah, rfl, rfl, h, hbs, ht, h10, hA, hok, _⟩ hn hB
  obtain ⟨r0, r1, r2, r3, r4⟩ := quin_cells h.blk
  obtain ⟨f0, f1, f2, f3, f4⟩ := quin_free h.blk
  have HE : Hid (Lg (w.setCell ⟨g, 3, none⟩ (.int .i64 n)) B (.pointer (some ⟨g, 0, none⟩)) (ft g SC kv) (faiT j n)) := hide ⟨g, cp, SC, kv, bs, tl, n, rfl, rfl, by rw [five3 h.blk]; exact h.row _ _ _, hbs, ht, h10, hA, okL_fail hok n, rfl, hn⟩
  have HO : Hid (Only (ft g SC kv) w (w.setCell ⟨g, 3, none⟩ (.int .i64 n))) := hide ((Only.refl (ft g SC kv) w).setCell (p := ⟨g, 3, none⟩) (Or.inl rfl) _)
  clear h hbs ht h10 hA hok
  go_enter Tryz.func12, Tryz.ntmps12
  go_wp2
  go_end0
  exact ⟨_, rfl, HE.out, HO.out, fun b hb => Or.inl hb⟩
theorem less_same {ah fl : Int} (h : fl = (if ah < 0 then -1 else ah)) : lessF fl = (if lessF ah < 0 then -1 else lessF ah) := by
  subst h
  unfold lessF
  repeat' split
  all_goals omega
theorem zero_same {ah fl : Int} (h : fl = (if ah < 0 then -1 else ah)) : (fl = 0 ↔ ah = 0) := by
  subst h
  split <;> omega
theorem less_le {ah : Int} (h : ah ≤ 9223372036854775807) : lessF ah ≤ 9223372036854775807 := by
  unfold lessF
  split <;> omega
/-- What Sync leaves. -/
def Synced (w : World) (B g : Nat) (SC : Nat → Prop) (kv : Value) (j : LS) (e : Ending) (w' : World) : Prop :=
  ∃ S', e = .returned (errV 63 (synE j)) ∧ Lg w' B (.pointer (some ⟨g, 0, none⟩)) S' (synT j) ∧ Only (ft g SC kv) w w' ∧ (∀ b, S' b → ft g SC kv b ∨ w.heap.size ≤ b)
set_option maxHeartbeats 4000000 in
theorem syncLaw : SyncLaw Lg := by
  rintro p S j w B ⟨g, cp, SC, kv, bs, tl, ah, rfl, rfl, h, hbs, ht, h10, hA, hok, hfl, hah⟩ hB
  show Calls _ _ _ _ (Synced w B g SC kv j)
  obtain ⟨r0, r1, r2, r3, r4⟩ := quin_cells h.blk
  have hz := zero_same hfl
  cases hst : j.stop with
  | true =>
    have HE : Hid (Synced w B g SC kv j (.returned (.iface 63 (.int .i64 6))) w) := hide ⟨ft g SC kv, by unfold synE; rw [if_pos hst]; rfl, by unfold synT; rw [if_pos hst]; exact ⟨g, cp, SC, kv, bs, tl, ah, rfl, rfl, h, hbs, ht, h10, hA, hok, hfl, hah⟩, Only.refl _ _, fun b hb => Or.inl hb⟩
    rw [hst] at r4
    clear h hbs ht h10 hA hok hfl hst
    go_enter Tryz.func7, Tryz.ntmps7
    go_wp2
    go_ret
    exact HE.out
  | false =>
    have h' := h
    rw [hst] at h' r4
    have HF := hide (fails_any w B g cp kv SC bs j.safe ah j.f j.k h' hah)
    have hne : ¬ j.stop = true := by rw [hst]; exact Bool.false_ne_true
    by_cases h0 : ah = 0
    · have HE : Hid (∀ w1, Step w B g cp kv SC bs j.safe ah j.f j.k (.returned (.bool true)) w1 → Synced w B g SC kv j (.returned (.iface 63 (.int .i64 6))) w1) := hide (by
        rintro w1 ⟨_, h1, ho1⟩
        rw [decide_eq_true h0] at h1
        refine ⟨ft g SC kv, ?_, ?_, (Only.refl _ w).trans ho1 (fun b _ hb => Or.inl hb), fun b hb => Or.inl hb⟩
        · unfold synE; rw [if_neg hne, if_pos (hz.2 h0)]; rfl
        · unfold synT
          rw [if_neg hne, if_pos (hz.2 h0)]
          have e : synT j = { j with stop := true } := by unfold synT; rw [if_neg hne, if_pos (hz.2 h0)]
          refine ⟨g, cp, SC, kv, bs, tl, lessF ah, rfl, rfl, h1, hbs, ht, h10, hA, by rw [← e]; exact okL_sync hok, ?_, less_le hah⟩
          show j.fail = _
          rw [h0] at hfl ⊢
          exact hfl)
      have HD := hide (decide_eq_true h0)
      clear h h' hbs ht h10 hA hok hfl hst h0 hz
      go_enter Tryz.func7, Tryz.ntmps7
      go_wp2_with (go_at_call 27; refine HF.out.mono ?_; rintro e w1 ⟨rfl, h1, ho1⟩; rw [HD.out])
      go_ret
      exact HE.out _ ⟨by rw [HD.out], h1, ho1⟩
    · have hbl := bytes_len hbs ht hA
      obtain ⟨ka, kc, rfl⟩ := kv_form h.byt
      have HE : Hid (∀ w1, Step w B g cp (.slice ka bs.length kc) SC bs j.safe ah j.f j.k (.returned (.bool false)) w1 → Synced w B g SC (.slice ka bs.length kc) j (.returned .nilIface) (w1.setCell ⟨g, 2, none⟩ (.int .i64 bs.length))) := hide (by
        rintro w1 ⟨_, h1, ho1⟩
        rw [decide_eq_false h0] at h1
        have hnz : ¬ j.fail = 0 := fun e => h0 (hz.1 e)
        refine ⟨ft g SC (.slice ka bs.length kc), ?_, ?_, ((Only.refl _ w).trans ho1 (fun b _ hb => Or.inl hb)).setCell (p := ⟨g, 2, none⟩) (Or.inl rfl) _, fun b hb => Or.inl hb⟩
        · unfold synE; rw [if_neg hne, if_neg hnz]; rfl
        · have e : synT j = { j with safe := j.bytes, fail := lessF j.fail } := by unfold synT; rw [if_neg hne, if_neg hnz]
          have hk2 : OkL (synT j) := okL_sync hok
          rw [e] at hk2 ⊢
          refine ⟨g, cp, SC, .slice ka bs.length kc, bs, tl, lessF ah, rfl, rfl, ?_, hbs, ht, h10, hA, hk2, less_same hfl, less_le hah⟩
          rw [five2 h1.blk]
          have := h1.row bs.length (lessF ah) false
          show LIs _ B g cp SC _ bs ((j.bytes : Nat) : Int) _ j.stop j.f j.k
          rw [hst, ← hbl]
          exact this)
      have HD := hide (decide_eq_false h0)
      clear h h' hbs ht h10 hA hok hfl hst h0 hz hbl
      go_enter Tryz.func7, Tryz.ntmps7
      go_wp2_with (go_at_call 27; refine HF.out.mono ?_; rintro e w1 ⟨rfl, h1, ho1⟩; rw [HD.out]; have HS1 : Hid (Step w B g cp (.slice ka bs.length kc) SC bs j.safe ah j.f j.k (.returned (.bool false)) w1) := hide ⟨by rw [HD.out], h1, ho1⟩; obtain ⟨s0, s1, s2, s3, s4⟩ := quin_cells h1.blk; obtain ⟨t0, t1, t2, t3, t4⟩ := quin_free h1.blk; clear h1 ho1)
      go_ret
      exact HE.out _ HS1.out
/-- What Raise leaves. -/
def Raised (w : World) (B g : Nat) (SC : Nat → Prop) (kv : Value) (j : LS) (nm : ByteArray) (v : Int) (e : Ending) (w' : World) : Prop :=
  ∃ S' n, 2 ≤ n ∧ n ≤ 1000 ∧ e = .returned (.tuple #[.bool (lraB j nm v), errV 63 (lraE j nm v)]) ∧ Lg w' B (.pointer (some ⟨g, 0, none⟩)) S' (lraT j nm v n) ∧ Only (ft g SC kv) w w' ∧ (∀ b, S' b → ft g SC kv b ∨ w.heap.size ≤ b)
theorem raised_none {w w' : World} {B g : Nat} {SC : Nat → Prop} {kv : Value} {j : LS} {nm : ByteArray} {v E : Int} {e : Ending} (hg : lraG j nm v = false) (hE : lraE j nm v = E) (h : Lg w B (.pointer (some ⟨g, 0, none⟩)) (ft g SC kv) j) (hb : Below w.heap.size w w')
    (he : e = .returned (.tuple #[.bool false, errV 63 E])) : Raised w B g SC kv j nm v e w' := by
  refine ⟨ft g SC kv, 2, by omega, by omega, ?_, ?_, Only.of_below hb, fun b hb => Or.inl hb⟩
  · rw [hE, show lraB j nm v = false by unfold lraB; rw [hg]; rfl]
    exact he
  · unfold lraT
    rw [hg, if_neg Bool.false_ne_true]
    exact core.below h hb
/-- The counts behind a record that was written. -/
theorem LIs.counted {W W' : World} {B g : Nat} {cp kv : Value} {SC : Nat → Prop} {bs : List UInt8} {sf ah : Int} {st : Bool} {f f' : ByteArray → Int} {k k' : Nat} (h : LIs W B g cp SC kv bs sf ah st f k) (hc : Count.Cnt W' B cp SC f' k') (ho : Only SC W W') : LIs W' B g cp SC kv bs sf ah st f' k' :=
  ⟨ho.heap h.blk h.gc, h.lo, hc, h.byt.only ho (fun b hb hs => h.kc b hb hs), h.gc, h.gk, h.kc⟩
section Rai
variable {w w3 w4 w5 : World} {B g : Nat} {cp kv : Value} {SC : Nat → Prop} {bs tl : List UInt8} {j : LS} {nm : ByteArray} {v ah : Int} {e : Ending}
/-- It stops at this record: half of it is there. -/
theorem raised_half (hne : ¬ j.stop = true) (hb : raiB j.f j.k nm v = true) (h30 : j.rs.length < 30) (h0 : ah = 0) (hbs : bs = recsL j.rs ++ tl) (ht : tl.length = j.half) (hA : AllR j.rs) (hok : OkL j) (hfl : j.fail = (if ah < 0 then -1 else ah)) (hah : ah ≤ 9223372036854775807) (hg : GoodR nm v)
    (hw3 : Below w.heap.size w w3) (hw : Wrote w3 B g cp kv SC bs j.safe ah j.f j.k (recB nm v) (.returned (.iface 63 (.int .i64 6))) w4) : Raised w B g SC kv j nm v (.returned (.tuple #[.bool false, .iface 63 (.int .i64 6)])) w4 := by
  obtain ⟨_, kv', h4, ho4, hf4⟩ := hw
  have hG : lraG j nm v = true := lraG_iff.2 ⟨by simpa using hne, hb, h30⟩
  have hf0 : j.fail = 0 := (zero_same hfl).2 h0
  have hbl := bod_len hg
  have hhf : j.half = 0 := hok.stop (by simpa using hne)
  have htl : tl = [] := List.eq_nil_of_length_eq_zero (by omega)
  have e1 : lraT j nm v (recL nm v).length = { j with half := (recL nm v).length / 2, stop := true } := by unfold lraT; rw [if_pos hG, if_pos hf0]
  have hk := okL_raise (nm := nm) (v := v) (n := (recL nm v).length) hok (by rw [rec_len]; omega) (by rw [rec_len]; omega)
  refine ⟨ft g SC kv', (recL nm v).length, by rw [rec_len]; omega, by rw [rec_len]; omega, ?_, ?_, ((Only.refl _ w).trans (Only.of_below (S := fun _ => False) hw3) (fun b _ h => h.elim)).trans ho4 (fun b _ h => h), fun b hb => (hf4 b hb).imp id (fun h => Nat.le_trans hw3.size h)⟩
  · rw [show lraB j nm v = false by unfold lraB; rw [hG, decide_eq_false (by simpa using hf0)]; rfl, show lraE j nm v = 6 by unfold lraE; rw [if_neg hne, if_pos hb, if_pos h30, if_pos hf0]]
    rfl
  · rw [e1] at hk ⊢
    rw [if_pos h0, half_size, decide_eq_true h0] at h4
    refine ⟨g, cp, SC, kv', _, (recL nm v).take ((recL nm v).length / 2), lessF ah, rfl, rfl, h4, ?_, half_len nm v, half_ten hg, hA, hk, ?_, less_le hah⟩
    · rw [hbs, htl, List.append_nil]
    · show j.fail = _
      rw [h0] at hfl ⊢
      exact hfl
/-- It is raised. -/
theorem raised_whole (hne : ¬ j.stop = true) (hb : raiB j.f j.k nm v = true) (h30 : j.rs.length < 30) (h0 : ¬ ah = 0) (hbs : bs = recsL j.rs ++ tl) (ht : tl.length = j.half) (hA : AllR j.rs) (hok : OkL j) (hfl : j.fail = (if ah < 0 then -1 else ah)) (hah : ah ≤ 9223372036854775807) (hg : GoodR nm v)
    (hw3 : Below w.heap.size w w3) (hw : Wrote w3 B g cp kv SC bs j.safe ah j.f j.k (recB nm v) (.returned .nilIface) w4) :
    Count.Cnt w4 B cp SC j.f j.k ∧ w4.cell? ⟨g, 0, none⟩ = some cp ∧ (Count.Cnt w5 B cp SC (raiF j.f j.k nm v) (raiK j.f j.k nm v) → Only SC w4 w5 → Raised w B g SC kv j nm v (.returned (.tuple #[.bool (raiB j.f j.k nm v), errV 63 (raiE j.f j.k nm v)])) w5) := by
  obtain ⟨_, kv', h4, ho4, hf4⟩ := hw
  refine ⟨h4.cnt, (quin_cells h4.blk).1, fun hc5 ho5 => ?_⟩
  have hG : lraG j nm v = true := lraG_iff.2 ⟨by simpa using hne, hb, h30⟩
  have hf0 : ¬ j.fail = 0 := fun e => h0 ((zero_same hfl).1 e)
  have hbl := bod_len hg
  have hhf : j.half = 0 := hok.stop (by simpa using hne)
  have htl : tl = [] := List.eq_nil_of_length_eq_zero (by omega)
  have e1 : lraT j nm v (recL nm v).length = { j with rs := j.rs ++ [(nm, v, (recL nm v).length)], fail := lessF j.fail } := by unfold lraT; rw [if_pos hG, if_neg hf0]
  have hk := okL_raise (nm := nm) (v := v) (n := (recL nm v).length) hok (by rw [rec_len]; omega) (by rw [rec_len]; omega)
  refine ⟨ft g SC kv', (recL nm v).length, by rw [rec_len]; omega, by rw [rec_len]; omega, ?_, ?_, (((Only.refl _ w).trans (Only.of_below (S := fun _ => False) hw3) (fun b _ h => h.elim)).trans ho4 (fun b _ h => h)).trans ho5 (fun b _ h => Or.inr (Or.inl h)), fun b hb => (hf4 b hb).imp id (fun h => Nat.le_trans hw3.size h)⟩
  · rw [show lraB j nm v = true by unfold lraB; rw [hG, decide_eq_true hf0]; rfl, show lraE j nm v = 0 by unfold lraE; rw [if_neg hne, if_pos hb, if_pos h30, if_neg hf0], hb, raiE_rise hb]
  · rw [e1] at hk ⊢
    rw [if_neg h0, recB_data, decide_eq_false h0] at h4
    have h5 := h4.counted hc5 ho5
    have hst : j.stop = false := by simpa using hne
    refine ⟨g, cp, SC, kv', bs ++ recL nm v, [], lessF ah, rfl, rfl, ?_, ?_, ?_, by simp, hA.snoc hg, hk, less_same hfl, less_le hah⟩
    · show LIs w5 B g cp SC kv' (bs ++ recL nm v) j.safe (lessF ah) j.stop (cntL (j.rs ++ [(nm, v, (recL nm v).length)])).1 (cntL (j.rs ++ [(nm, v, (recL nm v).length)])).2
      rw [cntL_snoc, hst]
      exact h5
    · rw [hbs, htl, List.append_nil, List.append_nil, recsL_snoc]
    · show 0 = j.half
      exact hhf.symm
end Rai
set_option maxHeartbeats 4000000 in
theorem raiseLaw : RaiseLaw Lg := by
  rintro p S j nm v w B ⟨g, cp, SC, kv, bs, tl, ah, rfl, rfl, h, hbs, ht, h10, hA, hok, hfl, hah⟩ hl hh hB
  show Calls _ _ _ _ (Raised w B g SC kv j nm v)
  have hLg : Lg w B (.pointer (some ⟨g, 0, none⟩)) (ft g SC kv) j := ⟨g, cp, SC, kv, bs, tl, ah, rfl, rfl, h, hbs, ht, h10, hA, hok, hfl, hah⟩
  obtain ⟨r0, r1, r2, r3, r4⟩ := quin_cells h.blk
  obtain ⟨g1, m1, hg1, hSC1, hC1⟩ := h.cnt
  cases hst : j.stop with
  | true =>
    have HE : Hid (Raised w B g SC kv j nm v (.returned (.tuple #[.bool false, .iface 63 (.int .i64 6)])) w) := hide (raised_none (E := 6) (by unfold lraG; rw [hst]; rfl) (by unfold lraE; rw [if_pos hst]) hLg (Below.refl _ _) rfl)
    rw [hst] at r4
    clear h hbs ht h10 hA hok hfl hst hLg hg1 hSC1 hC1
    go_enter Tryz.func6, Tryz.ntmps6
    go_wp2
    go_ret2
    exact HE.out
  | false =>
    have hne : ¬ j.stop = true := by rw [hst]; exact Bool.false_ne_true
    have HWO := hide (Count.would_any cp SC j.f j.k nm v w B h.cnt hl)
    rw [hst] at r4
    cases hrb : raiB j.f j.k nm v with
    | false =>
      have HE : Hid (∀ w', Below w.heap.size w w' → Raised w B g SC kv j nm v (.returned (.tuple #[.bool false, errV 63 (raiE j.f j.k nm v)])) w') := hide (fun w' hb => raised_none (E := raiE j.f j.k nm v) (by unfold lraG; rw [hrb, Bool.and_false]; rfl) (by unfold lraE; rw [if_neg hne, if_neg (by rw [hrb]; exact Bool.false_ne_true)]) hLg hb rfl)
      rw [hrb] at HWO
      obtain ⟨ev, hev⟩ : ∃ ev, errV 63 (raiE j.f j.k nm v) = ev := ⟨_, rfl⟩
      rw [hev] at HE HWO
      subst hg1
      clear h hbs ht h10 hA hok hfl hst hLg hSC1 hC1 hev hrb
      go_enter Tryz.func6, Tryz.ntmps6
      go_wp2_with (go_at_call 22; refine HWO.out.mono ?_; rintro e w1 ⟨rfl, hb1⟩)
      go_ret2
      exact HE.out _ hb1
    | true =>
      have hgood : GoodR nm v := good_of hrb (by rw [hg1] at *; exact hC1.2.2.2.2.1 nm)
      have hby := hok.bytes.1
      have hbl := bytes_len hbs ht hA
      have HFU := hide (fun (W : World) (hW : LIs W B g cp SC kv bs j.safe ah j.stop j.f j.k) => isfull_any W B g cp kv SC bs j.safe ah j.stop j.f j.k hW j.rs tl hbs hA h10 (by omega) (by have := hok.many; omega))
      have HLI := hide h
      rw [hrb, raiE_rise hrb, errV_zero] at HWO
      by_cases h30 : 30 ≤ j.rs.length
      · have HE : Hid (∀ w', Below w.heap.size w w' → Raised w B g SC kv j nm v (.returned (.tuple #[.bool false, .iface 63 (.int .i64 4)])) w') := hide (fun w' hb => raised_none (E := 4) (by unfold lraG; rw [decide_eq_false (show ¬ j.rs.length < 30 by omega), Bool.and_false]) (by unfold lraE; rw [if_neg hne, if_pos hrb, if_neg (by omega)]) hLg hb rfl)
        have HD := hide (decide_eq_true h30)
        subst hg1
        clear h hbs ht h10 hA hok hfl hst hLg hSC1 hC1 hrb h30 hby hbl hgood
        go_enter Tryz.func6, Tryz.ntmps6
        go_wp2_with (first | (go_at_call 22; refine HWO.out.mono ?_; rintro e w1 ⟨rfl, hb1⟩) | (go_at_call 23; refine (HFU.out _ (HLI.out.below hb1)).mono ?_; rintro e w2 ⟨rfl, hb2⟩; rw [HD.out]))
        go_ret2
        exact HE.out _ (below_on hb1 hb2)
      · have HD := hide (decide_eq_false h30)
        have hrs := rec_len (nm := nm) (v := v)
        have hbo := bod_len hgood
        have HRC := hide (fun (W : World) (hW : Image.Has W) => record_any nm v W hgood hW)
        have HHas := hide hh
        rw [hst] at HLI
        have HWR := hide (fun (W : World) (hW : Below w.heap.size w W) => write_any W B g cp kv SC bs j.safe ah j.f j.k (recB nm v) (HLI.out.below hW) hah (Nat.le_trans hB hW.size) (by rw [recB_size]; omega) (by rw [recB_size]; omega) (by omega))
        rw [hst] at HFU
        by_cases h0 : ah = 0
        · have HE := hide (fun (w3 w4 : World) => raised_half (w := w) (w3 := w3) (w4 := w4) (B := B) (g := g) (cp := cp) (kv := kv) (SC := SC) hne hrb (by omega) h0 hbs ht hA hok hfl hah hgood)
          have HZ : Hid (errV 63 (if ah = 0 then 6 else 0) = .iface 63 (.int .i64 6)) := hide (by rw [if_pos h0]; rfl)
          generalize recB nm v = rb at *
          subst hg1
          clear h hbs ht h10 hA hok hfl hst hLg hSC1 hC1 hrb h30 hby hbl hgood hbo hrs h0
          go_enter Tryz.func6, Tryz.ntmps6
          go_wp2_with (first | (go_at_call 22; refine HWO.out.mono ?_; rintro e w1 ⟨rfl, hb1⟩) | (go_at_call 23; refine (HFU.out _ (HLI.out.below hb1)).mono ?_; rintro e w2 ⟨rfl, hb2⟩; rw [HD.out]) | (go_at_call 25; refine (HRC.out _ (HHas.out.below (below_on hb1 hb2))).mono ?_; rintro e w3 ⟨rfl, hb3⟩) | (go_at_call 24; refine (HWR.out _ (below_on (below_on hb1 hb2) hb3)).mono ?_; rintro e w4 hw4; have HW4 := hide hw4; obtain ⟨he4, hx4⟩ := hw4; rw [HZ.out] at he4; subst he4; clear hx4))
          go_ret2
          exact HE.out _ _ (below_on (below_on hb1 hb2) hb3) HW4.out
        · have HE := hide (fun (w3 w4 w5 : World) => raised_whole (w := w) (w3 := w3) (w4 := w4) (w5 := w5) (B := B) (g := g) (cp := cp) (kv := kv) (SC := SC) hne hrb (by omega) h0 hbs ht hA hok hfl hah hgood)
          have HZ : Hid (errV 63 (if ah = 0 then 6 else 0) = .nilIface) := hide (by rw [if_neg h0]; rfl)
          have HRA := hide (fun (W : World) (hW : Count.Cnt W B cp SC j.f j.k) => Count.raiseStay cp SC j.f j.k nm v W B hW hl)
          generalize recB nm v = rb at *
          obtain ⟨ev, hev⟩ : ∃ ev, errV 63 (raiE j.f j.k nm v) = ev := ⟨_, rfl⟩
          rw [hev] at HE HRA
          obtain ⟨bv, hbv⟩ : ∃ bv, raiB j.f j.k nm v = bv := ⟨_, rfl⟩
          rw [hbv] at HE HRA
          subst hg1
          clear h hbs ht h10 hA hok hfl hst hLg hSC1 hC1 hrb h30 hby hbl hgood hbo hrs h0 hev hbv
          go_enter Tryz.func6, Tryz.ntmps6
          go_wp2_with (first | (go_at_call 22; refine HWO.out.mono ?_; rintro e w1 ⟨rfl, hb1⟩) | (go_at_call 23; refine (HFU.out _ (HLI.out.below hb1)).mono ?_; rintro e w2 ⟨rfl, hb2⟩; rw [HD.out]) | (go_at_call 25; refine (HRC.out _ (HHas.out.below (below_on hb1 hb2))).mono ?_; rintro e w3 ⟨rfl, hb3⟩) | (go_at_call 24; refine (HWR.out _ (below_on (below_on hb1 hb2) hb3)).mono ?_; rintro e w4 hw4; have HW4 := hide hw4; obtain ⟨he4, hx4⟩ := hw4; rw [HZ.out] at he4; subst he4; clear hx4; have HE4 := hide (fun (w5 : World) => HE.out _ _ w5 (below_on (below_on hb1 hb2) hb3) HW4.out); have c4 := (HE4.out w4).2.1) | (go_at_call 26; refine (HRA.out _ (HE4.out w4).1).mono ?_; rintro e w5 ⟨rfl, hc5, ho5⟩))
          go_ret2
          exact (HE4.out _).2.2 hc5 ho5
/-- How many bytes a crash leaves. -/
theorem high_is {nb sf : Nat} {keep : Int} {j : LS} (hb : j.bytes = nb) (hs : j.safe = sf) (hle : sf ≤ nb) : highL j keep ≤ nb ∧ ((highL j keep : Nat) : Int) = sf + min (max keep 0) ((nb : Int) - sf) := by
  unfold highL
  rw [hb, hs]
  by_cases h1 : keep ≤ 0
  · rw [if_pos h1]; omega
  · rw [if_neg h1]
    by_cases h2 : keep < (nb : Int) - sf
    · rw [if_pos h2]; omega
    · rw [if_neg h2]; omega
/-- What Crash does. -/
theorem crashLaw : CrashLaw Lg := by
  rintro p S j keep w B ⟨g, cp, SC, kv, bs, tl, ah, rfl, rfl, h, hbs, ht, h10, hA, hok, hfl, hah⟩ hB
  have hbl := bytes_len hbs ht hA
  have hby := hok.bytes
  obtain ⟨ka, kc, rfl⟩ := kv_form h.byt
  obtain ⟨q1, q2⟩ := high_is (keep := keep) hbl.symm rfl (by omega : j.safe ≤ bs.length)
  obtain ⟨t2, e2, h2⟩ := left_parts tl (highL j keep) hA h10 (by rw [← hbs]; exact q1)
  rw [← hbs] at e2
  have hlr := leftL_le j.rs (highL j keep)
  have hmany := hok.many
  refine (crash_any w B g cp SC ka bs.length kc bs j.safe (highL j keep) ah j.stop j.f j.k keep h (j.rs.take (leftL j.rs (highL j keep))) t2 e2 (hA.take _) h2 (by omega) (by rw [List.length_take]; omega) hB (by omega) q1 q2).mono ?_
  rintro e w' ⟨rfl, cp', SC', h', ho', hf'⟩
  refine ⟨ft g SC' (.slice ka (lenL (j.rs.take (leftL j.rs (highL j keep)))) kc), rfl, ⟨g, cp', SC', _, recsL (j.rs.take (leftL j.rs (highL j keep))), [], -1, rfl, rfl, h', (List.append_nil _).symm, rfl, by simp, hA.take _, okL_crash hok keep, rfl, by omega⟩, ho', hf'⟩
end Go.Proofs.YtgnpffkfbacejaaGreatDoor.Log
