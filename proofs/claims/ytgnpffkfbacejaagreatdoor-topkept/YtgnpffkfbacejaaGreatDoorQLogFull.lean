/-
  Package log's isFull: are there thirty records?
-/
import Derived.Test.YtgnpffkfbacejaaGreatDoorQLogIter
namespace Go.Proofs.YtgnpffkfbacejaaGreatDoor.Log
open Go.ChangeShapes Go.WideShapes Go.ChangeAt Go.RowKit Go.Shelf
open Go.Proofs.YtgnpffkfbacejaaGreatDoor.M
set_option linter.unusedVariables false

attribute [local go_sem] Oper.semAt_some

/-- Between two rounds: as many as have come are counted. -/
def FI (w : World) (z b3 : Nat) {α : Type} (ys : List α) (W : World) : Prop := Boxed W b3 3 (.int .i64 ys.length) ∧ Below w.heap.size w W ∧ z ≤ W.heap.size
theorem FI.only {w W W' : World} {z b3 : Nat} {α : Type} {ys : List α} {S : Nat → Prop} (h : FI w z b3 ys W) (ho : Only S W W') (hn : ∀ k, k = b3 ∨ k < w.heap.size → ¬ S k) : FI w z b3 ys W' := by
  obtain ⟨h1, h2, h3⟩ := h
  refine ⟨ho.heap h1 (hn _ (Or.inl rfl)), h2.trans (ho.below h2.size (fun k hk => ?_)), Nat.le_trans h3 ho.size⟩
  by_cases hlt : k < w.heap.size
  · exact absurd hk (hn k (Or.inr hlt))
  · omega
theorem FI.own {w : World} {z b3 n : Nat} {α : Type} (h3 : b3 < n) (hw : w.heap.size ≤ n) : OwnFrom n (FI w z b3 (α := α)) :=
  ownFrom_only (fun _ _ k => k = b3 ∨ k < w.heap.size) (fun _ _ _ k hk => by rcases hk with h | h <;> omega) (fun _ _ _ _ h ho hn => h.only ho hn)

set_option maxRecDepth 100000 in
set_option maxHeartbeats 4000000 in
theorem isfull_any (w : World) (B g : Nat) (cp kv : Value) (SC : Nat → Prop) (bs : List UInt8) (sf ah : Int) (st : Bool) (f : ByteArray → Int) (k : Nat) (h : LIs w B g cp SC kv bs sf ah st f k)
    (rs : List Rcd) (tl : List UInt8) (hbs : bs = recsL rs ++ tl) (hA : AllR rs) (ht : (10 : UInt8) ∉ tl) (hl : bs.length ≤ 1000000) (hr : rs.length ≤ 1000) :
    Calls Tryz.prog 23 #[.pointer (some ⟨g, 0, none⟩)] w fun e w' => e = .returned (.bool (decide (30 ≤ rs.length))) ∧ Below w.heap.size w w' := by
  have hG := h.blk
  have hgl := blk_lt hG
  have HBY := hide h.byt
  have hkv : kv.oneCell' = true := by
    rcases h.byt.form with ⟨rfl, _⟩ | ⟨_, _, rfl, _⟩ <;> rfl
  have HKB := hide (fun b (hb : kv.ownBlock = some b) => (h.byt.has b hb).2)
  obtain ⟨ka, kn, kc, rfl⟩ : ∃ a n c, kv = .slice a n c := by
    rcases h.byt.form with ⟨rfl, _⟩ | ⟨_, _, rfl, _⟩ <;> exact ⟨_, _, _, rfl⟩
  obtain ⟨r0, r1, r2, r3, r4⟩ := quin_cells hG
  have HIT := hide (fun (n : Nat) (hn : 1 ≤ n) (Bn : Nat) (W0 : World) (hk : Byt W0 B (.slice ka kn kc) bs) (hb : Boxed W0 Bn 60 (.slice ka kn kc)) => iter_byt n hn rs tl bs (.slice ka kn kc) B g Bn W0 hbs hA ht hl hk hb)
  clear hbs hA ht hl h
  refine (callsIn_wide (n := 6)).1 ?_
  refine callsIn_of_wp_marks Tryz.func23 rfl trivial ?_ rfl
  simp only [Tryz.ntmps23, List.size_toArray, List.length_cons, List.length_nil, Nat.reduceAdd, Nat.reduceSub, Array.replicate_succ, Array.replicate_zero, List.push_toArray, List.append_toArray, List.nil_append, List.cons_append]
  gi_wp2_with (refine ⟨trivial, ?_⟩; gi_at_call 28; refine (callsIn_wide.2 (records_any _ rfl _)).mono ?_; rintro e w2 ⟨rfl, rfl⟩)
  obtain ⟨W0, hW0⟩ : ∃ W0, W0 = (w.alloc (.cells #[.int .i64 0] 3)).alloc (.cells #[.slice ka kn kc] 60) := ⟨_, rfl⟩
  have hz : W0.heap.size = w.heap.size + 2 := by rw [hW0]; simp
  have b3 : Boxed W0 w.heap.size 3 (.int .i64 0) := by rw [hW0]; exact (Boxed.new w _ _).alloc _
  have b8 : Boxed W0 (w.heap.size + 1) 60 (.slice ka kn kc) := by rw [hW0]; have := Boxed.new (w.alloc (.cells #[.int .i64 0] 3)) 60 (.slice ka kn kc); simpa using this
  have hbW : Below w.heap.size w W0 := by rw [hW0]; exact below_on (below_new _ _) (below_new _ _)
  have h0 : FI w W0.heap.size w.heap.size ([] : List (Rc bs)) W0 := ⟨b3, hbW, Nat.le_refl _⟩
  obtain ⟨b, C, hbC, hC, _, hq⟩ := HIT.out 5 (by decide) (w.heap.size + 1) W0 (HBY.out.only (Only.of_below (S := fun _ => False) hbW) (fun _ _ h => h)) b8
  have hbl : b < w.heap.size := by
    rcases hbC with h | h
    · exact HKB.out b h
    · omega
  rw [← hW0]
  clear b3 b8 HIT HBY hW0 hkv
  refine wpIn_rangeFunc_ownH rfl (by decide) (gf := 49) (lb := #[.pointer (some ⟨w.heap.size + 1, 0, none⟩)]) rfl trivial (enters_of Tryz.func49 (by kernel_rfl) rfl) hq kpS_t (kpS_b (n := W0.heap.size) (fun k hk => by omega)) (Below.refl _ _) (fun _ => rfl)
    (FI w W0.heap.size w.heap.size) (fun _ _ _ => False) (FI.own (by omega) (by omega)) (fun _ _ _ _ _ hs _ _ => hs) h0
    (fun x a' W => a' = { tmps := #[.pointer (some ⟨g, 0, none⟩), undef, .bool false, .pointer (some ⟨w.heap.size, 0, none⟩), .pointer (some ⟨g, 0, none⟩), .pointer (some ⟨g, 0, none⟩), .pointer (some ⟨g, 1, none⟩), .slice ka kn kc, .func (.func 49) #[] #[.pointer (some ⟨w.heap.size + 1, 0, none⟩)], .slice (some ⟨b, x.1.2, none⟩) x.1.1.2.2 (C - x.1.2), undef, undef, undef, undef], defers := [] })
    (fun x a' _ X Y row hs hg hr => hs) ?assign ?body ?done ?stop
  case assign =>
    rintro l pre x W K' hi hK'
    gi_wp2
    have hon : Only (fun _ => False) W W := Only.refl _ _
    refine hK' _ _ (keepsFrom_only hon (fun _ h => h.elim)) (fun k hk => rfl) hi ?_
    simp
  case body =>
    rintro l pre x a' W hl ⟨r, hr'⟩ hi rfl hlt
    have hsz := hi.2.2
    have c3 := hi.1.cell
    have f3 := hi.1.frozen
    have hlz : (pre.length : Int) < 1000 := by omega
    have hl0 : (0 : Int) ≤ pre.length := by omega
    gi_wp2
    have hw : Only (fun k => k = w.heap.size) W (W.setCell ⟨w.heap.size, 0, none⟩ (.int .i64 ((pre.length : Int) + 1))) := (Only.refl (fun k => k = w.heap.size) W).setCell (p := ⟨w.heap.size, 0, none⟩) rfl _
    refine ⟨keepsFrom_only hw (fun k hk => by omega), kpS_only hw (fun k hk => by omega) (fun k hk hs => by omega), ?_, hi.2.1.trans (hw.below hi.2.1.size (fun k hk => by omega)), Nat.le_trans hsz hw.size⟩
    have := hi.1.set (.int .i64 ((pre.length : Int) + 1))
    rw [List.length_append]
    exact this
  case done =>
    rintro D ys W hD hys hi hK'
    have hyl : ys.length = rs.length := by rw [← hys, List.length_map]
    have c3 := hi.1.cell
    rw [hyl] at c3
    have HD : Hid (decide (30 ≤ rs.length) = decide ((30 : Int) ≤ rs.length)) := (by apply decide_eq_decide.2; omega)
    have HB := hide hi.2.1
    gi_wp2
    refine ⟨by simp, .inl ⟨_, _, rfl, run_takeDeferred (by exact hK'), ?_⟩⟩
    refine ⟨_, results_tmp rfl _ _ _, by rw [HD.out]; rfl, ?_⟩
    exact HB.out.trans ((only_grown (grownBy_putObj' W D (.deferred none))).below HB.out.size (fun k hk => by have e : D = k := (by simpa using hk); omega))
  case stop =>
    rintro D c pre W _ _ h _
    exact h.elim
end Go.Proofs.YtgnpffkfbacejaaGreatDoor.Log
