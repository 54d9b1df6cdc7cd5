/-
  The walk of stairtop.TopAttest: it returns true, and memory that was there stays as it was.
-/
import Derived.Test.YtidnjnhmkhekeaaDoorQTopOne
import Derived.Test.YtidnjnhmkhekeaaDoorQRecAt
import Derived.Test.YtidnjnhmkhekeaaDoorQImRow
import Derived.Test.YtidnjnhmkhekeaaDoorQAttestMath
import Derived.Test.YtidnjnhmkhekeaaDoorQBootLaw
import Derived.Test.YtidnjnhmkhekeaaDoorQKeeperOb
import Derived.Test.YtidnjnhmkhekeaaDoorQQuote2
import Derived.Test.YtidnjnhmkhekeaaDoorQRule2
import Derived.BigQuiet
import Derived.WalkSmall
import Derived.Deep.DeepCutAuto
import Derived.Deep.CutBlock
namespace Go.Proofs.YtidnjnhmkhekeaaDoor.TopAttest
open Go.ChangeShapes Go.WideShapes Go.ChangeAt Go.RowKit
open Go.Proofs.YtidnjnhmkhekeaaDoor.M Go.Proofs.YtidnjnhmkhekeaaDoor.Keeper Go.Proofs.YtidnjnhmkhekeaaDoor.Image
set_option linter.unusedVariables false

theorem errV_no {T : TypeId} {k : Int} (h : ¬ k = 0) : errV T k = .iface T (.int .i64 k) := if_neg h
theorem info_sg : (Tryd.prog.info? 67).map (fun i => (i.zero, i.size, i.bytes)) = some (some (.agg #[.string { data := #[] }, .int .i64 0, .string { data := #[] }, .int .i64 0, .int .i64 0]), 5, 56) := by kernel_rfl
theorem sgV_len (s : Sg) : (sgV s).length = 5 := rfl
theorem sgV_one (s : Sg) : ∀ u ∈ sgV s, u.oneCell' = true := by
  intro u hu
  simp only [sgV, List.mem_cons, List.not_mem_nil, or_false] at hu
  rcases hu with rfl | rfl | rfl | rfl | rfl <;> rfl
theorem sg_new (W : World) (s : Sg) (t : TypeId) (b : Nat) (hb : W.heap.size = b) : ∀ (j : Nat) (u : Value), (sgV s)[j]? = some u → (W.alloc (.cells #[.string s.nm, .int .i64 s.v, .string s.cd, .int .i64 s.p, .int .i64 s.a] t)).cell? ⟨b, j, none⟩ = some u := by
  intro j u hu
  subst hb
  have h := blk_new W (.cells #[.string s.nm, .int .i64 s.v, .string s.cd, .int .i64 s.p, .int .i64 s.a] t)
  rw [cell_of_row _ _ _ _ _ _ h]
  match j, hu with
  | 0, hu => exact hu
  | 1, hu => exact hu
  | 2, hu => exact hu
  | 3, hu => exact hu
  | 4, hu => exact hu
  | j + 5, hu => simp [sgV] at hu

/-- Give, among things, the events one of them. -/
theorem sep_give_row {Kpr : World → Nat → Value → (Nat → Prop) → KS → Prop} {LK : Core Kpr} {w0 W : World} {B : Nat} {its : List (Thing B)} {p : Value} {S : Nat → Prop} {s : KS} {a : Option Addr} {es : List (Int × Int)} (GV : GiveLaw Kpr) (h : M.Sep w0 B (kprI LK B p S s :: rrowI 2 evV B a es :: its) W) (q : Int × Int × Int × Int × Int) (n cap : Nat) (hn : n = es.length) (hm : n ≤ maxLen) :
    Calls Tryd.prog 10 #[p, .agg #[.int .i64 q.1, .int .i64 q.2.1, .int .i64 q.2.2.1, .int .i64 q.2.2.2.1, .int .i64 q.2.2.2.2], .slice a n cap] W fun e w' => ∃ S', e = .returned (.tuple #[.int .i64 (givV s q es), errV 77 (givE s q es)]) ∧ M.Sep w0 B (kprI LK B p S' (givT s q es) :: rrowI 2 evV B a es :: its) w' := by
  have hd := (List.pairwise_cons.1 h.ap).1 (rrowI 2 evV B a es) (List.mem_cons_self ..)
  refine (GV p S s q a es n cap W B h.p0 hn hm (fun W' ho => ((rrowI 2 evV B a es).st h.p1 ho (fun k hk hs => hd k hs hk)).1) h.hb).mono ?_
  rintro e w' ⟨S', rfl, hk, ho, hf⟩
  exact ⟨S', rfl, h.step (i' := kprI LK B p S' (givT s q es)) hk ho hf⟩
theorem eight_list {r : List Int} (h : r.length = 8) : ∃ a0 a1 a2 a3 a4 a5 a6 a7, r = [a0, a1, a2, a3, a4, a5, a6, a7] := by
  match r, h with
  | [a0, a1, a2, a3, a4, a5, a6, a7], _ => exact ⟨a0, a1, a2, a3, a4, a5, a6, a7, rfl⟩
theorem bank8 {w : World} {b : Nat} {a0 a1 a2 a3 a4 a5 a6 a7 : Int} {t : TypeId} {fr : Nat × Nat} (h : w.heap[b]? = some (.cells (bankC [a0, a1, a2, a3, a4, a5, a6, a7]) t fr)) :
    w.cell? ⟨b, 0, none⟩ = some (.int .i64 a0) ∧ w.cell? ⟨b, 1, none⟩ = some (.int .i64 a1) ∧ w.cell? ⟨b, 2, none⟩ = some (.int .i64 a2) ∧ w.cell? ⟨b, 3, none⟩ = some (.int .i64 a3) ∧ w.cell? ⟨b, 4, none⟩ = some (.int .i64 a4) ∧ w.cell? ⟨b, 5, none⟩ = some (.int .i64 a5) ∧ w.cell? ⟨b, 6, none⟩ = some (.int .i64 a6) ∧ w.cell? ⟨b, 7, none⟩ = some (.int .i64 a7) := by
  refine ⟨?_, ?_, ?_, ?_, ?_, ?_, ?_, ?_⟩ <;> rw [cell_of_row w b _ _ t fr h] <;> rfl
theorem quiet_below (w : World) : ∀ n, Below w.heap.size w (w.drewN n)
  | 0 => Below.refl _ _
  | n + 1 => Below.drew (quiet_below w n)
/-- One signed image of a row of the call's own, written. -/
theorem sg_put {W : World} {B : Nat} {T : TypeId} {g cap ii : Nat} {R : List Sg} {rr s : Sg} (h : OwnR 5 sgV W B T (.slice (some ⟨g, 0, none⟩) R.length cap) R) (hk : R[ii]? = some rr) :
    OwnR 5 sgV (((((W.setCell ⟨g, ii * 5, none⟩ (.string s.nm)).setCell ⟨g, ii * 5 + 1, none⟩ (.int .i64 s.v)).setCell ⟨g, ii * 5 + 2, none⟩ (.string s.cd)).setCell ⟨g, ii * 5 + 3, none⟩ (.int .i64 s.p)).setCell ⟨g, ii * 5 + 4, none⟩ (.int .i64 s.a)) B T (.slice (some ⟨g, 0, none⟩) R.length cap) (R.set ii s) := by
  have hl : ii < R.length := (List.getElem?_eq_some_iff.1 hk).1
  have nx : ∀ {W' : World} {j : Nat} {u : Value} {y y' : Sg}, OwnR 5 sgV W' B T (.slice (some ⟨g, 0, none⟩) R.length cap) (R.set ii y) → sgV y' = (sgV y).set j u → j < 5 → OwnR 5 sgV (W'.setCell ⟨g, ii * 5 + j, none⟩ u) B T (.slice (some ⟨g, 0, none⟩) R.length cap) (R.set ii y') := by
    intro W' j u y y' h' he hj
    have h2 := own_cell sgV_len (xs := R.set ii y) (k := ii) (x := y) (x' := y') (by rw [List.length_set]; exact h') (List.getElem?_set_self hl) he hj
    rw [List.length_set, List.set_set] at h2
    exact h2
  have h0 := own_cell sgV_len (x' := ⟨s.nm, rr.v, rr.cd, rr.p, rr.a⟩) (j := 0) (u := .string s.nm) h hk rfl (by omega)
  have h1 := nx (y' := ⟨s.nm, s.v, rr.cd, rr.p, rr.a⟩) (j := 1) (u := .int .i64 s.v) h0 rfl (by omega)
  have h2 := nx (y' := ⟨s.nm, s.v, s.cd, rr.p, rr.a⟩) (j := 2) (u := .string s.cd) h1 rfl (by omega)
  have h3 := nx (y' := ⟨s.nm, s.v, s.cd, s.p, rr.a⟩) (j := 3) (u := .int .i64 s.p) h2 rfl (by omega)
  exact nx (y' := s) (j := 4) (u := .int .i64 s.a) h3 rfl (by omega)
theorem info_rule : (Tryd.prog.info? 73).map (fun i => (i.zero, i.size, i.bytes)) = some (some (.agg #[.int .i64 0, .slice none 0 0]), 2, 32) := by kernel_rfl
/-- What the rules' lists hold: each a block of one number. -/
def goodsI (B : Nat) (rl : List (Int × Value × List Int)) : Thing B where
  F := fun k => ∃ c ∈ rl, c.2.1.ownBlock = some k
  P := fun W => ∀ c ∈ rl, ∃ (g : Nat) (m : Int), c.2.1 = .slice (some ⟨g, 0, none⟩) 1 1 ∧ c.2.2 = [m] ∧ B ≤ g ∧ W.heap[g]? = some (.cells #[.int .i64 m] 3)
  has := fun h k hk => by
    obtain ⟨c, hc, he⟩ := hk
    obtain ⟨g, m, h1, _, h3, h4⟩ := h c hc
    rw [h1] at he
    cases he
    exact ⟨h3, blk_lt h4⟩
  st := fun h ho hn c hc => by
    obtain ⟨g, m, h1, h2, h3, h4⟩ := h c hc
    exact ⟨g, m, h1, h2, h3, ho.heap h4 (hn g ⟨c, hc, by rw [h1]; rfl⟩)⟩
theorem goods_more {B : Nat} {rl : List (Int × Value × List Int)} {W : World} {j m : Int} {o : Obj} (h : (goodsI B rl).P W) (hB : B ≤ W.heap.size) : (goodsI B (rl ++ [(j, .slice (some ⟨W.heap.size, 0, none⟩) 1 1, [m])])).P ((W.alloc (.cells #[.int .i64 m] 3)).alloc o) := by
  intro c hc
  rcases List.mem_append.1 hc with hc | hc
  · obtain ⟨g, m', h1, h2, h3, h4⟩ := h c hc
    exact ⟨g, m', h1, h2, h3, blk_keep (blk_keep h4 _) _⟩
  · rw [List.mem_singleton.1 hc]
    exact ⟨W.heap.size, m, rfl, rfl, hB, blk_keep (blk_new _ _) _⟩
theorem goods_in {B : Nat} {rl : List (Int × Value × List Int)} {W : World} (h : (goodsI B rl).P W) : ∀ c ∈ rl, goodIn W c := by
  intro c hc
  obtain ⟨g, m, h1, h2, _, h4⟩ := h c hc
  refine ⟨some ⟨g, 0, none⟩, 1, ?_, ?_, (fun e => by cases e), ?_⟩
  · rw [h1, h2]; rfl
  · rw [h2]; show 1 ≤ maxLen; unfold maxLen; omega
  · rw [h2]; exact Row.one _ _ _ (by rw [cell_of_row _ _ _ _ _ _ h4]; rfl)
theorem rule_one (c : Int × Value × List Int) (h : ∃ ad n cap, c.2.1 = .slice ad n cap) : ∀ u ∈ ruleV c, u.oneCell' = true := by
  obtain ⟨ad, n, cap, h⟩ := h
  intro u hu
  simp only [ruleV, List.mem_cons, List.not_mem_nil, or_false] at hu
  rcases hu with rfl | rfl
  · rfl
  · rw [h]; rfl
theorem rule_new (W : World) (j : Int) (v : Value) (l : List Int) (t : TypeId) (b : Nat) (hb : W.heap.size = b) : ∀ (i : Nat) (u : Value), (ruleV (j, v, l))[i]? = some u → (W.alloc (.cells #[.int .i64 j, v] t)).cell? ⟨b, i, none⟩ = some u := by
  intro i u hu
  subst hb
  rw [cell_of_row _ _ _ _ _ _ (blk_new W (.cells #[.int .i64 j, v] t))]
  match i, hu with
  | 0, hu => exact hu
  | 1, hu => exact hu
  | i + 2, hu => simp [ruleV] at hu
theorem rrow_lt {W : World} {a : Option Addr} {xs : List (Int × Int)} (h : RRow 2 evV W a xs) {k : Nat} (hx : xs ≠ [] ∧ a.map (·.block) = some k) : k < W.heap.size := by
  rcases h with h | ⟨b, off, ha, hc⟩
  · exact absurd h hx.1
  · obtain ⟨y, hy⟩ : ∃ y, xs[0]? = some y := by
      cases xs with
      | nil => exact absurd rfl hx.1
      | cons y r => exact ⟨y, rfl⟩
    have := World.block_lt_of_cell? W _ (hc 0 y hy 0 _ rfl)
    have e := hx.2
    rw [ha] at e
    cases e
    exact this
theorem bank_at {W : World} {g j : Nat} {b : List Int} {t : TypeId} {fr : Nat × Nat} (h : W.heap[g]? = some (.cells (bankC b) t fr)) (hl : b.length = 8) (hj : j < 8) : W.cell? ⟨g, j, none⟩ = some (.int .i64 (b.getD j 0)) := by
  rw [cell_of_row _ _ _ _ _ _ h]
  match b, hl with
  | [z0, z1, z2, z3, z4, z5, z6, z7], _ =>
    match j, hj with
    | 0, _ => rfl
    | 1, _ => rfl
    | 2, _ => rfl
    | 3, _ => rfl
    | 4, _ => rfl
    | 5, _ => rfl
    | 6, _ => rfl
    | 7, _ => rfl

set_option maxRecDepth 20000 in
set_option maxHeartbeats 8000000 in
theorem walk {Kpr : World → Nat → Value → (Nat → Prop) → KS → Prop} (LK : Core Kpr) (AO : AskOk Kpr) (GV : GiveLaw Kpr) (RF : Boot.RunFresh)
    (x k : Int) (a2 : Option Addr) (n2 c2 : Nat) (ims : List (ByteArray × Int × ByteArray)) (sec seed i : Int) (onm ocd : ByteArray) (oz : Int) (w : World)
    (hn2 : n2 = ims.length) (hm2 : n2 ≤ maxLen) (hr2 : RRow 3 imL w a2 ims) (hz2 : ∀ m ∈ ims, szI m) (hz6 : szI (onm, oz, ocd)) (hh : Has w) :
    Calls Tryd.prog 6 #[.int .i64 x, .int .i64 k, .slice a2 n2 c2, .int .i64 sec, .int .i64 seed, .int .i64 i, .agg #[.string onm, .int .i64 oz, .string ocd]] w fun e w' => e = .returned (.bool true) ∧ Below w.heap.size w w' := by
  have HLK := hide LK
  have HH := hide (fun (W : World) (h : Below w.heap.size w W) => hh.below h)
  have HAO := hide AO
  have HGV := hide GV
  have HRF := hide RF
  have HN2 := hide hn2
  have HR2 := hide hr2
  have HZ2 := hide hz2
  have HZ6 := hide hz6
  have hm2' : n2 ≤ 9223372036854775807 := by unfold maxLen at hm2; omega
  have HB0 := hide (below_new w (.cells #[.string onm, .int .i64 oz, .string ocd] 63))
  have HG0 := hide (blk_new w (.cells #[.string onm, .int .i64 oz, .string ocd] 63))
  have ON := hide (fun (W : World) (h : Below w.heap.size w W) => Top.one_any W (hh.below h))
  have SM := hide (fun (m : ByteArray × Int × ByteArray) (hm : szI m) (W : World) (h : Below w.heap.size w W) => Sign.make_any x k m.2.1 m.1 m.2.2 W hm.1 hm.2 (hh.below h))
  unfold imgC at SM
  clear LK AO GV RF hn2 hm2 hr2 hz2 hz6 hh
  have HS0 : Hid (M.Sep w w.heap.size [blkI w.heap.size w.heap.size (Nat.le_refl _) (.cells #[.string onm, .int .i64 oz, .string ocd] 63)] (w.alloc (.cells #[.string onm, .int .i64 oz, .string ocd] 63))) := (Sep.nil (Below.refl _ _) (Nat.le_refl _)).allocz (Nat.le_refl _) _
  clear HB0 HG0
  go_enter Tryd.func6, Tryd.ntmps6
  go_wp2_with (fail)
  refine (ON.out _ HS0.out.lo).mono ?_
  rintro e w1 ⟨rfl, hb1⟩
  have HS1 := hide (HS0.out.below hb1)
  clear hb1 HS0 ON
  cases hs : secB x with
  | false =>
    have PB := hide (fun W => Key.public_no x W hs)
    go_wp2_with (fail)
    refine (PB.out _).mono ?_
    rintro e w6 ⟨rfl, hw⟩
    rw [hw]
    clear hw
    go_wp2
    go_ret
    exact ⟨rfl, HS1.out.lo⟩
  | true =>
  have PB := hide (fun W => Key.public_ok x W hs)
  have HSX := hide hs
  clear hs
  go_wp2_with (fail)
  refine (PB.out _).mono ?_
  rintro e w6 ⟨rfl, hw⟩
  rw [hw]
  clear hw PB
  go_upto_block 0 with (fail)
  go_cut [14, 18, 19, 20, 21] from 49 to 74 (fun _ s18 _ _ _ w' => ∃ (ad : Option Addr) (cap : Nat) (R : List Sg), s18 = .slice ad R.length cap ∧ R.length ≤ 8 ∧ Hid (∀ s ∈ R, rightG (pwZ 64 x) s ∧ szS s) ∧ Hid (R ≠ [] → secB k = true) ∧ Hid (M.Sep w w.heap.size [rowI 5 sgV w.heap.size 67 (.slice ad R.length cap) R, blkI w.heap.size w.heap.size (Nat.le_refl _) (.cells #[.string onm, .int .i64 oz, .string ocd] 63)] w'))
  case first =>
    have HS2 : Hid (M.Sep w w.heap.size [rowI 5 sgV w.heap.size 67 (.slice none 0 0) [], blkI w.heap.size w.heap.size (Nat.le_refl _) (.cells #[.string onm, .int .i64 oz, .string ocd] 63)] w1) :=
      HS1.out.add (i := rowI 5 sgV w.heap.size 67 (.slice none 0 0) []) (Below.refl _ _) (OwnR.nil _ _ _) (fun b hb => by cases hb)
    go_wp2
    go_loopw [18, 19, 20, 21] (fun s18 s19 _ _ wr => ∃ (j : Nat) (ad : Option Addr) (cap : Nat) (R : List Sg), s18 = .slice ad R.length cap ∧ s19 = .int .i64 j ∧ j ≤ 8 ∧ j ≤ n2 ∧ R.length = j ∧ Hid (∀ s ∈ R, rightG (pwZ 64 x) s ∧ szS s) ∧ Hid (R ≠ [] → secB k = true) ∧ Hid (M.Sep w w.heap.size [rowI 5 sgV w.heap.size 67 (.slice ad R.length cap) R, blkI w.heap.size w.heap.size (Nat.le_refl _) (.cells #[.string onm, .int .i64 oz, .string ocd] 63)] wr)) (fun _ s19 _ _ _ => 8 - (intOf s19).toNat)
    case atStart => exact ⟨0, none, 0, [], rfl, rfl, by omega, by omega, rfl, (fun s hs => by cases hs), (fun h => absurd rfl h), HS2.out⟩
    case round =>
      obtain ⟨j, ad, cap, R, rfl, rfl, hj8, hjn, hRl, HRR, HRK, HS⟩ := hrel
      clear HS1 HS2
      have HRL := hide hRl
      clear hRl
      by_cases hlt : j < n2 ∧ j < 8
      · obtain ⟨jn, j8⟩ := hlt
        have jnz : (j : Int) < n2 := by omega
        have j8z : (j : Int) < 8 := by omega
        obtain ⟨⟨nm, z, cd⟩, hx⟩ : ∃ y, ims[j]? = some y := ⟨ims[j]'(by have := HN2.out; omega), List.getElem?_eq_getElem (by have := HN2.out; omega)⟩
        have hsz := HZ2.out _ (List.mem_of_getElem? hx)
        have SM1 := hide (SM.out (nm, z, cd) hsz)
        have HSZ := hide hsz
        simp only [] at SM1
        obtain ⟨b2, o2, rfl, hc2⟩ := im_at HR2.out hx
        obtain ⟨r0, r1, r2⟩ := hc2 _ HS.out.lo
        clear hx hc2 hsz
        by_cases hE : sgnE x k nm z cd = 0
        · have HG := hide (mkG_right (x := x) (k := k) (m := (nm, z, cd)) hE)
          have HKK := hide (okG_keys (x := x) (k := k) (m := (nm, z, cd)) hE)
          rw [mkS_ok hE, hE, errV_zero] at SM1
          unfold mkG at HG
          unfold sgnC at SM1
          simp only [] at HG
          clear hE
          generalize sigP x k (meaV nm z cd) = sp at *
          generalize sigA x k (meaV nm z cd) = sa at *
          go_wp2_with (fail)
          refine (SM1.out _ HS.out.lo).mono ?_
          rintro e w2 ⟨rfl, hb2⟩
          have HS3 := hide (((HS.out.below hb2).below (below_new w2 (.cells #[.string nm, .int .i64 z, .string cd, .int .i64 sp, .int .i64 sa] 67))).below (below_new _ (.cells #[.string nm, .int .i64 z, .string cd, .int .i64 sp, .int .i64 sa] 67)))
          have hbs := HS3.out.hb
          have HRX : Hid (R.length ≤ 1000000) := by have := HRL.out; show R.length ≤ 1000000; omega
          clear hb2 HS SM1 r0 r1 r2
          go_wp2_with (at_builtin; refine wpList_appRAt (n := 5) (cv := sgV) rfl _ _ 65 rfl w.heap.size 67 _ 56 info_sg rfl (by omega) (by omega) Tryd.underlying65 sgV_len (.slice ad R.length cap) R rfl HS3.out.p0 (w2.heap.size + 1) ⟨nm, z, cd, sp, sa⟩ (sgV_one _) rfl (sg_new _ ⟨nm, z, cd, sp, sa⟩ _ _ (by simp)) HRX.out hbs ?_; intro v4 w4 ho4 hg4 hat4; have hs4 := HS3.out.grow ho4 hg4 hat4; obtain ⟨a4, c4, hv4, _, _⟩ := OwnR.row sgV_len ho4; subst hv4)
          have HS4 := hide hs4
          clear hs4 ho4 hg4 hat4 HS3 hbs
          go_wp2
          go_roundw
          case rel => exact ⟨j + 1, a4, c4, R ++ [(⟨nm, z, cd, sp, sa⟩ : Sg)], (by simp), by go_num, by omega, by omega, (by have := HRL.out; simp; omega), (fun s hs => by
            rcases List.mem_append.1 hs with h | h
            · exact HRR.out s h
            · rw [List.mem_singleton.1 h]; exact ⟨HG.out, HSZ.out⟩), (fun _ => HKK.out.2), HS4.out⟩
          case measure => simp [intOf]; omega
        · rw [mkS_no hE, errV_no hE] at SM1
          unfold sgnC at SM1
          go_wp2_with (fail)
          refine (SM1.out _ HS.out.lo).mono ?_
          rintro e w2 ⟨rfl, hb2⟩
          have HS3 := hide ((HS.out.below hb2).below (below_new w2 (.cells #[.string { data := #[] }, .int .i64 0, .string { data := #[] }, .int .i64 0, .int .i64 0] 67)))
          clear hb2 HS SM1 r0 r1 r2
          go_wp2
          go_ret
          exact ⟨rfl, HS3.out.lo⟩
      · have hq := hlt
        clear hlt
        by_cases jn : j < n2
        · have jnz : (j : Int) < n2 := by omega
          have j8z : ¬ (j : Int) < 8 := by omega
          clear hq
          go_wp2
          go_meet
          exact ⟨ad, cap, R, rfl, (by have := HRL.out; omega), HRR, HRK, HS⟩
        · have jnz : ¬ (j : Int) < n2 := by omega
          clear hq
          go_wp2
          go_meet
          exact ⟨ad, cap, R, rfl, (by have := HRL.out; omega), HRR, HRK, HS⟩
  case rest =>
  obtain ⟨ad, cap, R, rfl, hR8, HRR, HRK, HS2⟩ := hcut
  clear HS1
  have hbt := right_bot (q := pwZ 64 x) (l := R) (pwZ_in x) hR8 (fun s hs => (HRR.out s hs).1)
  have RN := hide (HRF.out (pwZ 64 x) ad R R.length cap wc rfl (by unfold maxLen; omega) (by
    obtain ⟨a', c', e, _, hr⟩ := OwnR.row sgV_len HS2.out.p0
    cases e
    exact hr) (fun s hs => (HRR.out s hs).2) (HH.out _ HS2.out.lo))
  have HL := hide hbt.2.2.1
  have HEV := hide hbt.2.2.2.1
  rw [hbt.1, hbt.2.1, hbt.2.2.1, errV_zero] at RN
  have HBL := hide (show (botB (pwZ 64 x) R).length = 8 from repV_len _)
  have HBO := hide (show okAll (botB (pwZ 64 x) R) = true from repV_ok _)
  have HBE := hide (show botB (pwZ 64 x) R = repV (botL (pwZ 64 x) R) from rfl)
  have HBR := hide (show botL (pwZ 64 x) R = evL (pwZ 64 x) 0 R from (bot_some hbt.1).1)
  clear hbt
  generalize botL (pwZ 64 x) R = es at *
  generalize botB (pwZ 64 x) R = b at *
  go_wp2_with (fail)
  refine RN.out.mono ?_
  rintro e w3 ⟨⟨ae, ce, rfl, hre, hfe⟩, hb3⟩
  have HS3 := hide (HS2.out.add (i := rrowI 2 evV w.heap.size ae es) hb3 ⟨hre, fun k hk => ⟨Nat.le_trans HS2.out.hb (hfe k hk.2), rrow_lt hre hk⟩⟩ (fun k hk => hfe k hk.2))
  have hz3 := HS3.out.hb
  have HS4 := hide (HS3.out.allocz hz3 (.cells (bankC b) 38))
  have HBC := hide (Bank.bankC_one b)
  have HBS := hide (show (bankC b).size = 8 by rw [bankC_size, HBL.out])
  clear hre hfe hb3 HS2 RN HS3
  go_wp2_with ((with_reducible refine Bank.wpl_store_new 22 79 _ _ ?_ ?_ ?_ ?_ Bank.noBank_size HBS.out HBC.out ?_); rfl; rfl; rfl; rfl)
  have HS5 : Hid (M.Sep w w.heap.size [rowI 2 ruleV w.heap.size 73 (.slice none 0 0) [], goodsI w.heap.size [], blkI w.heap.size w3.heap.size hz3 (.cells (bankC b) 38), rrowI 2 evV w.heap.size ae es, rowI 5 sgV w.heap.size 67 (.slice ad R.length cap) R, blkI w.heap.size w.heap.size (Nat.le_refl _) (.cells #[.string onm, .int .i64 oz, .string ocd] 63)] (w3.alloc (.cells (bankC b) 38))) :=
    ((HS4.out.add (i := goodsI w.heap.size []) (Below.refl _ _) (fun c hc => by cases hc) (fun k hk => by obtain ⟨c, hc, _⟩ := hk; cases hc)).add (i := rowI 2 ruleV w.heap.size 73 (.slice none 0 0) []) (Below.refl _ _) (OwnR.nil _ _ _) (fun k hk => by cases hk))
  clear HS4
  generalize w3.heap.size = bb at *
  go_loopw [26, 27] (fun s26 s27 wr => ∃ (j : Nat) (ra : Option Addr) (rc : Nat) (rl : List (Int × Value × List Int)), s26 = .slice ra rl.length rc ∧ s27 = .int .i64 j ∧ j ≤ R.length ∧ Hid (rl.length = j ∧ rulesL rl = rulesOf b j) ∧ Hid (M.Sep w w.heap.size [rowI 2 ruleV w.heap.size 73 (.slice ra rl.length rc) rl, goodsI w.heap.size rl, blkI w.heap.size bb hz3 (.cells (bankC b) 38), rrowI 2 evV w.heap.size ae es, rowI 5 sgV w.heap.size 67 (.slice ad R.length cap) R, blkI w.heap.size w.heap.size (Nat.le_refl _) (.cells #[.string onm, .int .i64 oz, .string ocd] 63)] wr)) (fun _ s27 _ => R.length - (intOf s27).toNat)
  case atStart => exact ⟨0, none, 0, [], rfl, rfl, by omega, ⟨rfl, rfl⟩, HS5.out⟩
  case round =>
    obtain ⟨j, ra, rc, rl, rfl, rfl, hjR, HRL, HS⟩ := hrel
    clear HS5
    by_cases hlt : j < R.length
    · have hltz : (j : Int) < R.length := by omega
      have hbk : wr.heap[bb]? = some (.cells (bankC b) 38) := HS.out.p2
      have hcell := bank_at hbk HBL.out (show j < 8 by omega)
      have HGM := hide (goods_more (j := (j : Int)) (m := b.getD j 0) (o := .cells #[.int .i64 j, .slice (some ⟨wr.heap.size, 0, none⟩) 1 1] 73) HS.out.p1 HS.out.hb)
      have HRL2 := hide (show rulesL (rl ++ [((j : Int), Value.slice (some ⟨wr.heap.size, 0, none⟩) 1 1, [b.getD j 0])]) = rulesOf b (j + 1) by rw [rulesOf_succ, ← HRL.out.2]; unfold rulesL; rw [List.map_append]; rfl)
      clear hbk
      generalize b.getD j 0 = bj at *
      have HS6 := hide (Sep.step1 (i' := goodsI w.heap.size (rl ++ [((j : Int), Value.slice (some ⟨wr.heap.size, 0, none⟩) 1 1, [bj])])) HS.out HGM.out (Only.of_below (below_on (below_new wr (.cells #[.int .i64 bj] 3)) (below_new _ (.cells #[.int .i64 j, .slice (some ⟨wr.heap.size, 0, none⟩) 1 1] 73)))) (fun kk hk => by
        obtain ⟨c, hc, he⟩ := hk
        rcases List.mem_append.1 hc with h | h
        · exact Or.inl ⟨c, h, he⟩
        · rw [List.mem_singleton.1 h] at he
          cases he
          exact Or.inr (Nat.le_refl _)))
      have hbs := HS6.out.hb
      have HRX : Hid (rl.length ≤ 1000000) := by have := HRL.out.1; show rl.length ≤ 1000000; omega
      clear HGM HS
      go_wp2_with (at_builtin; refine wpList_appRAt (n := 2) (cv := ruleV) rfl _ _ 23 rfl w.heap.size 73 _ 32 info_rule rfl (by omega) (by omega) Tryd.underlying23 ruleV_len (.slice ra rl.length rc) rl rfl HS6.out.p0 (wr.heap.size + 1) ((j : Int), Value.slice (some ⟨wr.heap.size, 0, none⟩) 1 1, [bj]) (rule_one _ ⟨_, _, _, rfl⟩) rfl (rule_new _ _ _ _ _ _ (by simp)) HRX.out hbs ?_; intro v7 w7 ho7 hg7 hat7; have hs7 := HS6.out.grow ho7 hg7 hat7; obtain ⟨a7, c7, hv7, _, _⟩ := OwnR.row ruleV_len ho7; subst hv7)
      have HS7 := hide hs7
      clear hs7 ho7 hg7 hat7 HS6 hbs hcell
      go_wp2
      go_roundw
      case rel => exact ⟨j + 1, a7, c7, rl ++ [((j : Int), Value.slice (some ⟨wr.heap.size, 0, none⟩) 1 1, [bj])], (by simp), by go_num, by omega, ⟨(by have := HRL.out.1; simp; omega), HRL2.out⟩, HS7.out⟩
      case measure => simp [intOf]; omega
    · have hltz : ¬ (j : Int) < R.length := by omega
      have hjj : j = R.length := by omega
      subst hjj
      have hrl := HRL.out.2
      have hrE : rulesE (rulesL rl) = 0 := by rw [hrl]; exact rulesOf_ok HBO.out hR8
      have hfE : fitE (rulesL rl) b = 0 := (fitE_ok hrE).trans (bankE_ok HBO.out)
      have hfA : fitA (rulesL rl) b = true := by rw [fitA_ok hfE, hrl]; exact fits_of.2 (fun j _ => rfl)
      have hrin : ∀ W, M.Sep w w.heap.size [rowI 2 ruleV w.heap.size 73 (.slice ra rl.length rc) rl, goodsI w.heap.size rl, blkI w.heap.size bb hz3 (.cells (bankC b) 38), rrowI 2 evV w.heap.size ae es, rowI 5 sgV w.heap.size 67 (.slice ad R.length cap) R, blkI w.heap.size w.heap.size (Nat.le_refl _) (.cells #[.string onm, .int .i64 oz, .string ocd] 63)] W → RulesIn W ra rl := fun W h => by
        obtain ⟨a', c', e, _, hr⟩ := OwnR.row ruleV_len h.p0
        cases e
        exact ⟨hr, goods_in h.p1⟩
      have HRI := hide hrin
      have hcap := (ownR_cap HS.out.p0).2.1
      have hml : rl.length ≤ maxLen := by have := HRL.out.1; unfold maxLen; omega
      have FI := hide (Rule.fits_any ra rl rl.length rc b (bankC b) wr rfl hml hcap (hrin _ HS.out) rfl HBL.out)
      rw [hfE, hfA, errV_zero] at FI
      have HRE := hide hrE
      have HCP := hide hcap
      have HML := hide hml
      clear hrl hrE hfE hfA hrin hcap hml
      have hbk : wr.heap[bb]? = some (.cells (bankC b) 38) := HS.out.p2
      have HBK := hide hbk
      clear hbk
      go_wp2_with ((with_reducible refine Bank.wpl_load 22 ?_ ?_ _ ?_ _ _ HBK.out HBS.out ?_); rfl; rfl; rfl)
      refine FI.out.mono ?_
      rintro e w8 ⟨rfl, hb8⟩
      have HS8 := hide (HS.out.below hb8)
      clear hb8 HS HBK FI
      cases hkm : (isM sec && isM seed) with
      | false =>
        have hE1 : kprE (pwZ 64 x) sec seed (rulesL rl) = 1 := kprE_no (by rw [hkm]; simp)
        have NO := hide (HLK.out.newNo (pwZ 64 x) sec seed ra rl rl.length rc w8 rfl HML.out HCP.out (HRI.out _ HS8.out) (by rw [hE1]; decide))
        rw [hE1, errV_one] at NO
        clear hE1
        have hr : sec < 0 ∨ 1000002 < sec ∨ seed < 0 ∨ 1000002 < seed := by
          apply Decidable.byContradiction
          intro hn
          have h1 : isM sec = true := isM_iff.2 (by omega)
          have h2 : isM seed = true := isM_iff.2 (by omega)
          rw [h1, h2] at hkm
          cases hkm
        clear hkm
        go_wp2_with (fail)
        refine NO.out.mono ?_
        rintro e w9 ⟨rfl, hb9⟩
        have HS9 := hide (HS8.out.below hb9)
        clear hb9 HS8 NO
        by_cases c1 : sec < 0
        · clear hr
          go_wp2
          go_ret
          exact ⟨rfl, HS9.out.lo⟩
        · by_cases c2 : 1000002 < sec
          · clear hr
            go_wp2
            go_ret
            exact ⟨rfl, HS9.out.lo⟩
          · by_cases c3 : seed < 0
            · clear hr
              go_wp2
              go_ret
              exact ⟨rfl, HS9.out.lo⟩
            · have c4 : 1000002 < seed := by omega
              clear hr
              go_wp2
              go_ret
              exact ⟨rfl, HS9.out.lo⟩
      | true =>
      have hE0 : kprE (pwZ 64 x) sec seed (rulesL rl) = 0 := by rw [kprE_rul (by rw [hkm, pwZ_in]; rfl)]; exact HRE.out
      have NW := hide (sep_new HLK.out (pwZ 64 x) sec seed ra rl rl.length rc rfl HML.out HCP.out (HRI.out _ HS8.out) hE0 HS8.out.tail.tail)
      clear hE0 hkm HCP HML HRI
      go_wp2_with (fail)
      refine NW.out.mono ?_
      rintro e w9 ⟨p, S9, rfl, hd9⟩
      have HS9 := hide (hd9.perm ((List.Perm.swap _ _ _).cons _))
      clear hd9 NW HS8
      have AK := hide (sep_ask HAO.out HS9.out (by unfold fullK newK; simp))
      have hst : stp 7919 (newK (pwZ 64 x) sec seed (rulesL rl)).la (newK (pwZ 64 x) sec seed (rulesL rl)).mn = stp 7919 seed 0 := rfl
      rw [hst] at AK
      have HNN := hide (show isM (stp 7919 seed 0) = true from isM_iff.2 ⟨stp_ge _ _ _, stp_lt _ _ _⟩)
      have HK1 : Hid ((askT (newK (pwZ 64 x) sec seed (rulesL rl))).xs = [stp 7919 seed 0] ∧ (askT (newK (pwZ 64 x) sec seed (rulesL rl))).pub = pwZ 64 x ∧ (askT (newK (pwZ 64 x) sec seed (rulesL rl))).sec = sec ∧ (askT (newK (pwZ 64 x) sec seed (rulesL rl))).rl = rulesL rl ∧ (askT (newK (pwZ 64 x) sec seed (rulesL rl))).la = stp 7919 seed 0 ∧ (askT (newK (pwZ 64 x) sec seed (rulesL rl))).mn = 1) := ⟨rfl, rfl, rfl, rfl, rfl, rfl⟩
      clear hst
      generalize askT (newK (pwZ 64 x) sec seed (rulesL rl)) = s1 at *
      generalize stp 7919 seed 0 = nn at *
      have HDB := hide (show digE b 255 = 0 from digE_ok HBO.out (by decide))
      have MK := hide (fun W => Quote.make_any x k nn 255 b (bankC b) W rfl HBL.out)
      go_wp2_with (fail)
      refine AK.out.mono ?_
      rintro e wA ⟨SA, rfl, hdA⟩
      have HSA := hide hdA
      clear hdA AK HS9
      have hbk : wA.heap[bb]? = some (.cells (bankC b) 38) := HSA.out.p2
      have HBK := hide hbk
      clear hbk
      go_wp2_with ((with_reducible refine Bank.wpl_load 22 ?_ ?_ _ ?_ _ _ HBK.out HBS.out ?_); rfl; rfl; rfl)
      refine (MK.out _).mono ?_
      rintro e wB ⟨rfl, hbB⟩
      have HSB := hide (HSA.out.below hbB)
      clear hbB HSA HBK MK
      cases hsk : secB k with
      | false =>
        have hq1 : quoE x k nn 255 b = 1 := by
          rcases quoE_is x k nn 255 b with h | h
          · rw [(quoE_zero h).2.2.2] at hsk; cases hsk
          · exact h
        rw [hq1, errV_one, quoV_no (by rw [hq1]; decide)]
        unfold quoC
        simp only []
        have hkr : k < 1 ∨ 256 < k := by
          apply Decidable.byContradiction
          intro hn
          have h1 : secB k = true := secB_iff.2 (by omega)
          rw [h1] at hsk
          cases hsk
        have HSC := hide (HSB.out.below (below_new wB (.cells #[.int .i64 0, .int .i64 0, .int .i64 0, .int .i64 0, .int .i64 0] 34)))
        clear hq1 hsk
        by_cases c1 : k < 1
        · clear hkr
          go_wp2
          go_ret
          exact ⟨rfl, HSC.out.lo⟩
        · have c2 : 256 < k := by omega
          clear hkr
          go_wp2
          go_ret
          exact ⟨rfl, HSC.out.lo⟩
      | true =>
      have hq0 : quoE x k nn 255 b = 0 := quo_some HSX.out hsk HNN.out HDB.out
      have HSK := hide hsk
      have hso : surE (pwZ 64 x) (quoV x k nn 255 b) nn es (rulesL rl) = 0 := by
        have hq' := hq0
        rw [HBE.out] at hq' ⊢
        refine (sur_own hq' HEV.out HRE.out).2 ?_
        rw [all255, ← HBE.out, HRL.out.2]
        exact fits_of.2 (fun j _ => rfl)
      obtain ⟨o1, o2, o3⟩ := once_k (s := s1) (q := quoV x k nn 255 b) (es := es) (n := nn) (se := 0) HK1.out.1 (quo_num hq0) (by rw [HK1.out.2.1, HK1.out.2.2.2.1]; exact hso)
      rw [if_pos rfl, HK1.out.2.2.1] at o2
      rw [hq0, errV_zero]
      obtain ⟨⟨u0, u1, u2, u3, u4⟩, hu⟩ : ∃ u, u = quoV x k nn 255 b := ⟨_, rfl⟩
      rw [← hu] at o1 o2 o3 ⊢
      have HX2 := hide o3
      unfold quoC
      simp only []
      have hzB := HSB.out.hb
      have HSC := hide ((HSB.out.allocz hzB (.cells #[.int .i64 u0, .int .i64 u1, .int .i64 u2, .int .i64 u3, .int .i64 u4] 34)).perm (List.perm_middle (l₁ := [_, _])).symm)
      clear hu hso hq0 hsk HSB
      have GI := hide (sep_give_row HGV.out HSC.out (u0, u1, u2, u3, u4) R.length ce HL.out.symm (by unfold maxLen; omega))
      rw [o1, o2, errV_zero] at GI
      have HK2 : Hid ((givT s1 (u0, u1, u2, u3, u4) es).pub = pwZ 64 x ∧ (givT s1 (u0, u1, u2, u3, u4) es).rl = rulesL rl ∧ (givT s1 (u0, u1, u2, u3, u4) es).la = nn ∧ (givT s1 (u0, u1, u2, u3, u4) es).mn = 1) := ⟨HK1.out.2.1, HK1.out.2.2.2.1, HK1.out.2.2.2.2.1, HK1.out.2.2.2.2.2⟩
      clear o1 o2 o3 HK1
      generalize givT s1 (u0, u1, u2, u3, u4) es = s2 at *
      go_wp2_with (fail)
      refine GI.out.mono ?_
      rintro e wD ⟨SD, rfl, hdD⟩
      have HSD := hide hdD
      clear hdD GI HSC
      by_cases ci : i < 0
      · go_wp2
        go_ret
        exact ⟨rfl, HSD.out.lo⟩
      by_cases cj : (R.length : Int) ≤ i
      · go_wp2
        go_ret
        exact ⟨rfl, HSD.out.lo⟩
      obtain ⟨ii, rfl⟩ : ∃ ii : Nat, i = ii := ⟨i.toNat, by omega⟩
      have hii : ii < R.length := by omega
      have hiz : ¬ (R.length : Int) ≤ ii := by omega
      clear ci cj
      have hoth : wD.heap[w.heap.size]? = some (.cells #[.string onm, .int .i64 oz, .string ocd] 63) := HSD.out.ok _ (List.mem_cons_of_mem _ (List.mem_cons_of_mem _ (List.mem_cons_of_mem _ (List.mem_cons_of_mem _ (List.mem_cons_of_mem _ (List.mem_cons_self ..))))))
      obtain ⟨t0, t1, t2⟩ := tri_cells hoth
      have SM1 := hide (SM.out (onm, oz, ocd) HZ6.out wD HSD.out.lo)
      simp only [] at SM1
      clear hoth
      by_cases hE : sgnE x k onm oz ocd = 0
      · have HG := hide (mkG_right (x := x) (k := k) (m := (onm, oz, ocd)) hE)
        rw [mkS_ok hE, hE, errV_zero] at SM1
        unfold mkG at HG
        unfold sgnC at SM1
        simp only [] at HG
        clear hE
        generalize sigP x k (meaV onm oz ocd) = sp at *
        generalize sigA x k (meaV onm oz ocd) = sa at *
        go_wp2_with (fail)
        refine SM1.out.mono ?_
        rintro e wE ⟨rfl, hbE⟩
        have HSE := hide (((HSD.out.below hbE).below (below_new wE (.cells #[.string onm, .int .i64 oz, .string ocd, .int .i64 sp, .int .i64 sa] 67))).perm (List.perm_middle (l₁ := [_, _, _, _])))
        clear hbE HSD SM1 t0 t1 t2
        obtain ⟨g, rfl⟩ := (ownR_cap HSE.out.p0).2.2 (by intro e; rw [e] at hii; exact absurd hii (by simp))
        obtain ⟨rr, hrr⟩ : ∃ y, R[ii]? = some y := ⟨R[ii], List.getElem?_eq_getElem hii⟩
        have HRRR := hide hrr
        obtain ⟨r0, f0⟩ := own_read sgV_len HSE.out.p0 hrr 0 _ rfl
        obtain ⟨r1, f1⟩ := own_read sgV_len HSE.out.p0 hrr 1 _ rfl
        obtain ⟨r2, f2⟩ := own_read sgV_len HSE.out.p0 hrr 2 _ rfl
        obtain ⟨r3, f3⟩ := own_read sgV_len HSE.out.p0 hrr 3 _ rfl
        obtain ⟨r4, f4⟩ := own_read sgV_len HSE.out.p0 hrr 4 _ rfl
        rw [Nat.add_zero] at r0 f0
        clear hrr
        go_upto_region 42 with (fail)
        have HSF := hide (HSE.out.step (i' := rowI 5 sgV w.heap.size 67 (.slice (some ⟨g, 0, none⟩) R.length cap) (R.set ii ⟨onm, oz, ocd, sp, sa⟩)) (sg_put (s := ⟨onm, oz, ocd, sp, sa⟩) HSE.out.p0 HRRR.out) ((((((Only.refl (fun k => (Value.slice (some ⟨g, 0, none⟩) R.length cap).ownBlock = some k) _).setCell (p := ⟨g, ii * 5, none⟩) rfl _).setCell (p := ⟨g, ii * 5 + 1, none⟩) rfl _).setCell (p := ⟨g, ii * 5 + 2, none⟩) rfl _).setCell (p := ⟨g, ii * 5 + 3, none⟩) rfl _).setCell (p := ⟨g, ii * 5 + 4, none⟩) rfl _) (fun k hk => Or.inl hk))
        simp only [] at HSF
        clear HSE r0 r1 r2 r3 r4 f0 f1 f2 f3 f4 HRRR
        generalize World.setCell _ ⟨g, ii * 5 + 4, none⟩ _ = wF at *
        have HRR2 := hide (show ∀ s ∈ R.set ii ⟨onm, oz, ocd, sp, sa⟩, rightG (pwZ 64 x) s ∧ szS s from fun s hs => by
          rcases List.mem_or_eq_of_mem_set hs with h | h
          · exact HRR.out s h
          · rw [h]; exact ⟨HG.out, HZ6.out⟩)
        have HLL := hide (show (R.set ii ⟨onm, oz, ocd, sp, sa⟩).length = R.length from List.length_set ..)
        have HFS := hide (fits_same_bank (q := pwZ 64 x) (l := R) (l2 := R.set ii ⟨onm, oz, ocd, sp, sa⟩) hR8 HLL.out (fun s hs => (HRR.out s hs).1) (fun s hs => (HRR2.out s hs).1))
        generalize R.set ii ⟨onm, oz, ocd, sp, sa⟩ = R2 at *
        have hbt := right_bot (q := pwZ 64 x) (l := R2) (pwZ_in x) (by rw [HLL.out]; exact hR8) (fun s hs => (HRR2.out s hs).1)
        have RN := hide (HRF.out (pwZ 64 x) (some ⟨g, 0, none⟩) R2 R.length cap wF HLL.out.symm (by unfold maxLen; omega) (by
          obtain ⟨a', c', e, _, hr⟩ := OwnR.row sgV_len HSF.out.p0
          have e1 : some (⟨g, 0, none⟩ : Addr) = a' := by injection e
          rw [e1]
          exact hr) (fun s hs => (HRR2.out s hs).2) (HH.out _ HSF.out.lo))
        have HL2 := hide (hbt.2.2.1.trans HLL.out)
        have HEV2 := hide hbt.2.2.2.1
        rw [hbt.1, hbt.2.1, HL2.out, errV_zero] at RN
        have HBL2 := hide (show (botB (pwZ 64 x) R2).length = 8 from repV_len _)
        have HBO2 := hide (show okAll (botB (pwZ 64 x) R2) = true from repV_ok _)
        have HBE2 := hide (show botB (pwZ 64 x) R2 = repV (botL (pwZ 64 x) R2) from rfl)
        have HBR2 := hide (show botL (pwZ 64 x) R2 = evL (pwZ 64 x) 0 R2 from (bot_some hbt.1).1)
        clear hbt
        generalize botL (pwZ 64 x) R2 = es2 at *
        generalize botB (pwZ 64 x) R2 = c at *
        go_wp2_with (fail)
        refine RN.out.mono ?_
        rintro e wG ⟨⟨ae2, ce2, rfl, hre, hfe⟩, hbG⟩
        have HSG := hide ((HSF.out.add (i := rrowI 2 evV w.heap.size ae2 es2) hbG ⟨hre, fun k hk => ⟨Nat.le_trans HSF.out.hb (hfe k hk.2), rrow_lt hre hk⟩⟩ (fun k hk => hfe k hk.2)).perm (List.perm_middle (l₁ := [_, _])))
        have hzG := HSG.out.hb
        have HSH := hide ((HSG.out.allocz hzG (.cells (bankC c) 38)).perm (List.perm_middle (l₁ := [_, _])).symm)
        have HBC2 := hide (Bank.bankC_one c)
        have HBS2 := hide (show (bankC c).size = 8 by rw [bankC_size, HBL2.out])
        clear hre hfe hbG HSF RN HSG
        have AK := hide (sep_ask HAO.out HSH.out (by unfold fullK; rw [HX2.out, HK2.out.2.2.2]; simp))
        rw [HK2.out.2.2.1, HK2.out.2.2.2] at AK
        have HNN2 := hide (show isM (stp 7919 nn 1) = true from isM_iff.2 ⟨stp_ge _ _ _, stp_lt _ _ _⟩)
        have HK3 : Hid ((askT s2).xs = [stp 7919 nn 1] ∧ (askT s2).pub = pwZ 64 x ∧ (askT s2).rl = rulesL rl) := by
          refine ⟨?_, HK2.out.1, HK2.out.2.1⟩
          show s2.xs ++ [stp 7919 s2.la s2.mn] = _
          rw [HX2.out, HK2.out.2.2.1, HK2.out.2.2.2]
          rfl
        generalize askT s2 = s3 at *
        generalize stp 7919 nn 1 = n3 at *
        have hq0 : quoE x k n3 255 c = 0 := quo_some HSX.out HSK.out HNN2.out (digE_ok HBO2.out (by decide))
        have MK := hide (fun W => Quote.make_any x k n3 255 c (bankC c) W rfl HBL2.out)
        rw [hq0, errV_zero] at MK
        have hse : (surE (pwZ 64 x) (quoV x k n3 255 c) n3 es2 (rulesL rl) = 0) ↔ c = b := by
          have hq' := hq0
          rw [HBE2.out] at hq' ⊢
          refine (sur_own hq' HEV2.out HRE.out).trans ?_
          have hfs := HFS.out
          rw [← HBR2.out, ← HBR.out, ← HBE.out] at hfs
          rw [all255, Bool.true_and, HRL.out.2, hfs, decide_eq_true_iff]
        obtain ⟨o1, o2, o3⟩ := once_k (s := s3) (q := quoV x k n3 255 c) (es := es2) (n := n3) (se := surE (pwZ 64 x) (quoV x k n3 255 c) n3 es2 (rulesL rl)) HK3.out.1 (quo_num hq0) (by rw [HK3.out.2.1, HK3.out.2.2])
        obtain ⟨⟨y0, y1, y2, y3, y4⟩, hy⟩ : ∃ u, u = quoV x k n3 255 c := ⟨_, rfl⟩
        rw [← hy] at o1 hse MK
        have HO1 := hide o1
        have HSE2 := hide hse
        unfold quoC at MK
        simp only [] at MK
        clear hy o1 o2 o3 hse hq0
        go_wp2_with ((with_reducible refine Bank.wpl_store_new 36 210 _ _ ?_ ?_ ?_ ?_ Bank.noBank_size HBS2.out HBC2.out ?_); rfl; rfl; rfl; rfl)
        refine AK.out.mono ?_
        rintro e wI ⟨SI, rfl, hdI⟩
        have HSI := hide hdI
        clear hdI AK HSH
        have hbc : wI.heap[wG.heap.size]? = some (.cells (bankC c) 38) := HSI.out.p2
        have HBK := hide hbc
        clear hbc
        go_wp2_with ((with_reducible refine Bank.wpl_load 36 ?_ ?_ _ ?_ _ _ HBK.out HBS2.out ?_); rfl; rfl; rfl)
        refine (MK.out _).mono ?_
        rintro e wJ ⟨rfl, hbJ⟩
        have HSJ := hide ((HSI.out.below hbJ).perm (List.perm_middle (l₁ := [_, _, _, _, _])))
        clear hbJ HSI HBK MK
        have hqb : wJ.heap[wB.heap.size]? = some (.cells #[.int .i64 u0, .int .i64 u1, .int .i64 u2, .int .i64 u3, .int .i64 u4] 34) := HSJ.out.p0
        have HQB := hide hqb
        obtain ⟨r0, r1, r2, r3, r4⟩ := quin_cells hqb
        obtain ⟨f0, f1, f2, f3, f4⟩ := quin_free hqb
        clear hqb
        go_upto_region 47 with (fail)
        rw [quin_set HQB.out]
        have HSK2 := hide ((HSJ.out.step (i' := blkI w.heap.size wB.heap.size hzB (.cells #[.int .i64 y0, .int .i64 y1, .int .i64 y2, .int .i64 y3, .int .i64 y4] 34)) (setRow_heap _ _ _ _ _ _ HQB.out) ((Only.refl (fun k => k = wB.heap.size) _).setRow (b := wB.heap.size) rfl _) (fun k hk => Or.inl hk)).perm (List.perm_middle (l₁ := [_, _, _, _, _])).symm)
        clear HSJ HQB r0 r1 r2 r3 r4 f0 f1 f2 f3 f4
        generalize wJ.setRow wB.heap.size _ = wK at *
        have hqk : wK.heap[wB.heap.size]? = some (.cells #[.int .i64 y0, .int .i64 y1, .int .i64 y2, .int .i64 y3, .int .i64 y4] 34) := HSK2.out.ok _ (List.mem_cons_of_mem _ (List.mem_cons_of_mem _ (List.mem_cons_of_mem _ (List.mem_cons_of_mem _ (List.mem_cons_of_mem _ (List.mem_cons_self ..))))))
        obtain ⟨r0, r1, r2, r3, r4⟩ := quin_cells hqk
        clear hqk
        have GI := hide (sep_give_row HGV.out HSK2.out (y0, y1, y2, y3, y4) R.length ce2 HL2.out.symm (by unfold maxLen; omega))
        rw [HO1.out] at GI
        clear HO1
        generalize surE (pwZ 64 x) (y0, y1, y2, y3, y4) n3 es2 (rulesL rl) = se at *
        go_wp2_with (fail)
        refine GI.out.mono ?_
        rintro e wL ⟨SL, rfl, hdL⟩
        have HSL := hide hdL
        clear hdL GI HSK2 r0 r1 r2 r3 r4
        go_upto_region 50 with (fail)
        obtain ⟨d0, d1, d2, d3, d4, d5, d6, d7, rfl⟩ := eight_list HBL2.out
        obtain ⟨c0, c1, c2', c3, c4, c5, c6, c7, rfl⟩ := eight_list HBL.out
        obtain ⟨p0, p1, p2, p3, p4, p5, p6, p7⟩ := bank8 (show wL.heap[wG.heap.size]? = some (.cells (bankC [d0, d1, d2, d3, d4, d5, d6, d7]) 38) from HSL.out.p2)
        obtain ⟨q0, q1, q2, q3, q4, q5, q6, q7⟩ := bank8 (show wL.heap[bb]? = some (.cells (bankC [c0, c1, c2', c3, c4, c5, c6, c7]) 38) from HSL.out.ok _ (List.mem_cons_of_mem _ (List.mem_cons_of_mem _ (List.mem_cons_of_mem _ (List.mem_cons_of_mem _ (List.mem_cons_of_mem _ (List.mem_cons_of_mem _ (List.mem_cons_self ..))))))))
        by_cases h0 : se = 0
        · have hdq := HSE2.out.1 h0
          have EQ : ∀ W : World, (Op.equalIn 10000 38 (.agg #[.int .i64 d0, .int .i64 d1, .int .i64 d2, .int .i64 d3, .int .i64 d4, .int .i64 d5, .int .i64 d6, .int .i64 d7]) (.agg #[.int .i64 c0, .int .i64 c1, .int .i64 c2', .int .i64 c3, .int .i64 c4, .int .i64 c5, .int .i64 c6, .int .i64 c7])).run Tryd.prog W = .ok true W := fun W => by
            have := Bank.eq_bank (xs := [d0, d1, d2, d3, d4, d5, d6, d7]) (ys := [c0, c1, c2', c3, c4, c5, c6, c7]) rfl rfl W
            rw [decide_eq_true hdq] at this
            exact this
          rw [h0, errV_zero]
          clear hdq h0
          go_quiet (fail)
          go_wp2
          go_ret
          exact ⟨rfl, below_on HSL.out.lo (quiet_below _ _)⟩
        · have hdq : ¬ [d0, d1, d2, d3, d4, d5, d6, d7] = [c0, c1, c2', c3, c4, c5, c6, c7] := fun h => h0 (HSE2.out.2 h)
          have EQ : ∀ W : World, (Op.equalIn 10000 38 (.agg #[.int .i64 d0, .int .i64 d1, .int .i64 d2, .int .i64 d3, .int .i64 d4, .int .i64 d5, .int .i64 d6, .int .i64 d7]) (.agg #[.int .i64 c0, .int .i64 c1, .int .i64 c2', .int .i64 c3, .int .i64 c4, .int .i64 c5, .int .i64 c6, .int .i64 c7])).run Tryd.prog W = .ok false W := fun W => by
            have := Bank.eq_bank (xs := [d0, d1, d2, d3, d4, d5, d6, d7]) (ys := [c0, c1, c2', c3, c4, c5, c6, c7]) rfl rfl W
            rw [decide_eq_false hdq] at this
            exact this
          rw [errV_no h0]
          clear hdq
          go_quiet (fail)
          go_wp2
          go_ret
          exact ⟨rfl, below_on HSL.out.lo (quiet_below _ _)⟩
      · rw [mkS_no hE, errV_no hE] at SM1
        unfold sgnC at SM1
        go_wp2_with (fail)
        refine SM1.out.mono ?_
        rintro e wE ⟨rfl, hbE⟩
        have HSE := hide ((HSD.out.below hbE).below (below_new wE (.cells #[.string { data := #[] }, .int .i64 0, .string { data := #[] }, .int .i64 0, .int .i64 0] 67)))
        clear hbE HSD SM1 t0 t1 t2
        go_wp2
        go_ret
        exact ⟨rfl, HSE.out.lo⟩
end Go.Proofs.YtidnjnhmkhekeaaDoor.TopAttest
