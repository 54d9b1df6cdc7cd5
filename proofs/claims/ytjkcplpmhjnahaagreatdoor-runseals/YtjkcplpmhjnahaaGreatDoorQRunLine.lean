/-
  Package run's (*desk).answer: what a line is answered, and the desk behind it.
-/
import Derived.Test.YtjkcplpmhjnahaaGreatDoorQRunTake2
import Derived.Test.YtjkcplpmhjnahaaGreatDoorQRunErr2
namespace Go.Proofs.YtjkcplpmhjnahaaGreatDoor.Run
open Go.ChangeShapes Go.WideShapes Go.ChangeAt Go.RowKit
open Go.Proofs.YtjkcplpmhjnahaaGreatDoor.M Go.Proofs.YtjkcplpmhjnahaaGreatDoor.Image
set_option linter.unusedVariables false

/-- The library's tables and variables are there, and run.errBad, whatever becomes of what was laid from B on. -/
structure Base (w : World) (B : Nat) (bb : Addr) : Prop where
  has : HasF w B
  hand : ∀ W, Below B w W → As.Handle W
  bad : ∀ W, Below B w W → BadAt bb W
theorem Base.on {w W : World} {B : Nat} {bb : Addr} (h : Base w B bb) (hW : Below B w W) : Base W B bb := ⟨h.has.on hW, fun W' hb => h.hand W' (hW.trans hb), fun W' hb => h.bad W' (hW.trans hb)⟩
theorem Base.given {w : World} {B g mb gc : Nat} {bb : Addr} {SC : Nat → Prop} {d : Dk} (h : Base w B bb) (hd : Dsk w B g mb gc SC d) : Given w B g mb gc bb SC d := ⟨hd, h.has, h.bad w (Below.refl _ _)⟩
/-- Words that lie apart from the desk. -/
structure Words (w : World) (g b off : Nat) (SC : Nat → Prop) (ws : List ByteArray) : Prop where
  lt : b < w.heap.size
  nd : ¬ (b = g ∨ SC b)
  cell : ∀ (k : Nat) x, ws[k]? = some x → w.cell? ⟨b, off + k, none⟩ = some (.string x)
  size : ∀ x ∈ ws, x.size ≤ 3000
  few : ws.length ≤ 3001
theorem take_any (w : World) (B g mb gc : Nat) (bb : Addr) (SC : Nat → Prop) (d : Dk) (p0 : ByteArray) (a : Option Addr) (b off : Nat) (ws : List ByteArray) (h : Given w B g mb gc bb SC d) (hp : p0.size ≤ 3000) (hw : Words w g b off SC ws) (ha : ws = [] ∨ a = some ⟨b, off, none⟩) :
    Calls Tryz.prog 34 #[.pointer (some ⟨g, 0, none⟩), .string p0, .slice a ws.length ws.length] w (Ans w B g mb gc bb SC (wordsA d (p0.data.toList :: ws.map (fun x => x.data.toList)))) := by
  cases hW : wantW p0.data.toList with
  | none => exact take_none w B g mb gc bb SC d p0 _ h hp hW _ (words_none hW)
  | some nm =>
    obtain ⟨named, m⟩ := nm
    have hm4 : m ≤ 4 := by rcases want_cases hW with ⟨_, _, rfl⟩ | ⟨_, _, rfl⟩ | ⟨_, _, rfl⟩ | ⟨_, _, rfl⟩ | ⟨_, _, rfl⟩ | ⟨_, _, rfl⟩ | ⟨_, _, rfl⟩ | ⟨_, _, rfl⟩ <;> omega
    have hV : wantV p0.data.toList = (if named = true then 1 else 0, (m : Int), true) := by unfold wantV; rw [hW]
    by_cases hl : ws.length = (if named = true then m + 1 else m)
    · cases named with
      | false =>
        have hl : ws.length = m := hl
        have ht : TxtIn w a ws := by
          rcases ha with h0 | h0
          · exact Or.inl h0
          · exact Or.inr ⟨b, off, h0, hw.lt, hw.cell⟩
        exact take_plain w B g mb gc bb SC d p0 a ws m _ h hp hW hl ht hw.size rfl _ rfl
      | true =>
        have hl : ws.length = m + 1 := hl
        match ws, hl, ha, hw with
        | nm :: r, hl, ha, hw =>
          have ha : a = some ⟨b, off, none⟩ := by
            rcases ha with h0 | h0
            · cases h0
            · exact h0
          subst ha
          exact take_named w B g mb gc bb SC d p0 nm b off r m _ h hp hW (by simpa using hl) hw.lt hw.nd hw.cell hw.size rfl _ rfl
    · have hA := words_count (d := d) (r := ws.map (fun x => x.data.toList)) hW (by rw [List.length_map]; exact hl)
      refine take_wrong w B g mb gc bb SC d p0 a ws.length ws.length _ _ h hp hV ?_ (by omega) ?_ (by omega) hw.few ?_ _ hA
      · split <;> omega
      · split <;> omega
      · intro e
        apply hl
        cases named with
        | false => simp at e ⊢; omega
        | true => simp at e ⊢; omega
/-- But for the desk all is as it was. -/
theorem words_cell {w : World} {cs : List ByteArray} (k : Nat) (x : ByteArray) (hx : cs[k]? = some x) (T : TypeId) : (w.alloc (.cells (cs.map Value.string).toArray T)).cell? ⟨w.heap.size, k, none⟩ = some (.string x) := by
  rw [cell_of_row _ _ _ _ _ _ (blk_new w _)]
  simp [hx]
theorem cut_sizes (c : UInt8) : ∀ (l acc x : List UInt8), x ∈ cutG c acc l → x.length ≤ acc.length + l.length
  | [], acc, x, h => by
    unfold cutG at h
    rw [List.mem_singleton.1 h]
    omega
  | b :: l, acc, x, h => by
    unfold cutG at h
    split at h
    · rcases List.mem_cons.1 h with rfl | h
      · omega
      · have := cut_sizes c l [] x h
        simp at this ⊢
        omega
    · have := cut_sizes c l _ x h
      simp at this ⊢
      omega
theorem ans_on {w W w' : World} {B g mb gc : Nat} {bb : Addr} {SC : Nat → Prop} {A : List UInt8 × Dk} {e : Ending} (hW : Kb w W) (h : Ans W B g mb gc bb SC A e w') : Ans w B g mb gc bb SC A e w' :=
  ⟨h.1, h.2.1, (Only.of_below (S := DS g SC) hW).trans h.2.2 (fun _ _ hk => hk)⟩
theorem words_sizes {s x : ByteArray} (hx : x ∈ wordsB s) : x.size ≤ s.size := by
  have h1 : x.data.toList ∈ cutG 32 [] s.data.toList := by rw [← words_cut]; exact List.mem_map.2 ⟨x, hx, rfl⟩
  have h2 := cut_sizes 32 _ _ _ h1
  have h3 := len_size x
  have h4 := len_size s
  have h5 : ([] : List UInt8).length = 0 := rfl
  omega
/-- What is so behind a line. -/
def Told (w : World) (B g mb gc : Nat) (SC : Nat → Prop) (A : List UInt8 × Dk) (e : Ending) (w' : World) : Prop :=
  e = .returned (.string { data := A.1.toArray }) ∧ Dsk w' B g mb gc SC A.2 ∧ Only (DS g SC) w w'
theorem told_mk {w w5 w' : World} {B g mb gc : Nat} {SC : Nat → Prop} {A : List UInt8 × Dk} {e : Ending} {t : ByteArray} (hD : Dsk w5 B g mb gc SC A.2) (hO : Only (DS g SC) w w5) (hb : Kb w5 w') (he : e = .returned (.string t)) (hA : A.1 = t.data.toList) : Told w B g mb gc SC A e w' := by
  refine ⟨?_, hD.below hb, hO.after hb⟩
  rw [he, hA]
set_option maxRecDepth 100000 in
set_option maxHeartbeats 4000000 in
theorem answer_any (w : World) (B g mb gc : Nat) (bb : Addr) (SC : Nat → Prop) (d : Dk) (line : ByteArray) (h : Base w B bb) (hd : Dsk w B g mb gc SC d) (hs : line.size ≤ 3000) :
    Calls Tryz.prog 13 #[.pointer (some ⟨g, 0, none⟩), .string line] w (Told w B g mb gc SC (lineA d line.data.toList)) := by
  have SP := hide (split_any line w hs)
  have hcut := words_cut line
  have hlen := words_len line
  have hcl : Lib.countB line spcB ≤ line.size := Lib.countB_le spcB (by decide) line.size line (Nat.le_refl _)
  obtain ⟨p0, ws, hps⟩ : ∃ p0 ws, wordsB line = p0 :: ws := by
    cases hq : wordsB line with
    | nil => rw [hq] at hlen; cases hlen
    | cons p r => exact ⟨p, r, rfl⟩
  have hz : ∀ x ∈ p0 :: ws, x.size ≤ 3000 := fun x hx => Nat.le_trans (words_sizes (by rw [hps]; exact hx)) hs
  rw [hps] at hcut hlen SP
  have hA : lineA d line.data.toList = wordsA d (p0.data.toList :: ws.map (fun x => x.data.toList)) := by rw [lineA_words, ← hcut]; rfl
  rw [hA]
  have hws : ws.length = Lib.countB line spcB := by simpa using hlen
  obtain ⟨w1, hw1⟩ : ∃ w1, w1 = w.alloc (.cells ((p0 :: ws).map Value.string).toArray 9) := ⟨_, rfl⟩
  have hb1 : Kb w w1 := by rw [hw1]; exact kb_new w _
  have hd1 := hd.below hb1
  have hlt1 : w.heap.size < w1.heap.size := by rw [hw1]; simp
  have hnd : ¬ (w.heap.size = g ∨ SC w.heap.size) := fun hq => by
    have := hd.has w.heap.size (by rcases hq with hq | hq; exact Or.inl hq; exact Or.inr (Or.inr hq))
    omega
  have hB1 : Below B w w1 := hd.base (lx_kb hb1)
  have hc1 : ∀ (k : Nat) x, (p0 :: ws)[k]? = some x → w1.cell? ⟨w.heap.size, k, none⟩ = some (.string x) := fun k x hx => by rw [hw1]; exact words_cell k x hx _
  rw [← hw1] at SP
  have CE : Hid (∀ W, Lx w1 g SC W → W.cell? ⟨w.heap.size, 0, none⟩ = some (.string p0)) := fun W hW => (World.cell?_of_block (a := ⟨w.heap.size, 0, none⟩) (hW.2.2.2.2 _ hlt1 hnd)).trans (hc1 0 p0 rfl)
  have TK := hide (fun (W : World) (hW : Kb w1 W) (a : Option Addr) (ha : ws = [] ∨ a = some ⟨w.heap.size, 1, none⟩) =>
    (take_any W B g mb gc bb SC d p0 a w.heap.size 1 ws ((h.on (hB1.trans (hd1.base (lx_kb hW)))).given (hd1.below hW)) (hz p0 (by simp))
      ⟨Nat.lt_of_lt_of_le hlt1 hW.size, hnd, fun k x hx => by rw [Nat.add_comm]; exact (hW.cell (p := ⟨w.heap.size, k + 1, none⟩) hlt1).trans (hc1 (k + 1) x hx), fun x hx => hz x (by simp [hx]), by omega⟩ ha).mono
      (fun e w' hT => (ans_on hW hT : Ans w1 B g mb gc bb SC _ e w')))
  have HBS := hide (fun (W : World) (hW : Lx w1 g SC W) => h.on (hB1.trans (hd1.base hW)))
  have K1 := kb_refl w1
  have L1 := lx_refl w1 g SC
  have c0 := CE.out w1 L1
  have HO1 : Hid (∀ W, Lx w1 g SC W → Only (DS g SC) w W) := fun W hW => (lx_kb (SC := SC) (g := g) hb1).trans hW (fun _ _ hk => hk)
  have hlw : ws.length ≤ 3000 := by omega
  generalize wordsA d (p0.data.toList :: ws.map (fun x => x.data.toList)) = A at *
  have hl1 : (p0 :: ws).length = ws.length + 1 := rfl
  rw [hl1] at SP
  have HNIL : Hid (ws.length = 0 → ws = []) := fun e => List.length_eq_zero_iff.1 e
  obtain ⟨n, hn⟩ : ∃ n, ws.length = n := ⟨_, rfl⟩
  rw [hn] at SP TK hlw HNIL
  have e1 : (1 : Int) ≤ (n : Int) + 1 := by omega
  have e2 : (0 : Int) < (n : Int) + 1 := by omega
  by_cases hn0 : n = 0
  · subst hn0
    have HT2 := hide (fun (W : World) (hW : Kb w1 W) (a : Option Addr) => TK.out W hW a (Or.inl (HNIL.out rfl)))
    clear hcut hlen hcl hps hz hA hws hw1 hd1 hnd hB1 hc1 hl1 hn h hd hs TK HNIL e1 e2 hlw hb1 hlt1
    go_enter Tryz.func13, Tryz.ntmps13
    go_wp2_with (fail)
    refine SP.out.mono ?_
    rintro e w2 ⟨rfl, rfl⟩
    go_wp2_with (fail)
    go_region_held3 (fun W => W.cell? ⟨w.heap.size, 0, none⟩ = some (.string p0))
      (exact CE.out _ (by with_reducible repeat (first | assumption | apply lx_drew)))
      ((go_at_call 34; refine (HT2.out _ (by with_reducible repeat (first | assumption | apply kb_drew)) _).mono ?_; rintro e w5 ⟨⟨t5, v5, rfl, hv5⟩, hD5, hO5⟩; have L5 : Lx w2 g SC w5 := hO5; have c5 := CE.out _ L5))
    all_goals
      have HBW := hide (fun (W : World) (hW : Kb w5 W) => (HBS.out w5 L5).on (hD5.base (lx_kb hW)))
      have HD5 := hide hD5
      have HO5 := hide (HO1.out w5 L5)
      have HV5 := hide hv5
      clear hD5 hO5 hv5 L5 L1 K1 c0 c5 CE HT2 HBS HO1
      rcases HV5.out with ⟨rfl, hA⟩ | ⟨k, k1, k9, rfl, hA⟩ | ⟨rfl, hA⟩
      · have HA := hide hA
        clear hA HV5
        go_wp2
        go_ret
        exact told_mk HD5.out HO5.out (by with_reducible repeat (first | exact kb_refl _ | apply kb_drew)) rfl HA.out
      · have HA := hide hA
        have TN := hide (fun (W : World) (hW : Kb w5 W) => told_errno k W (by omega) k9 ((HBW.out W hW).hand W (Below.refl _ _)))
        clear hA HV5 k1 k9
        go_wp2_with (fail)
        refine (TN.out _ (by with_reducible repeat (first | exact kb_refl _ | apply kb_drew))).mono ?_
        rintro e w6 ⟨rfl, hb6⟩
        go_wp2
        go_ret
        exact told_mk (t := { data := (errN k).toArray }) HD5.out HO5.out (kb_below (by with_reducible repeat (first | exact kb_refl _ | apply kb_drew)) hb6) rfl (by rw [HA.out])
      · have HA := hide hA
        have TN := hide (fun (W : World) (hW : Kb w5 W) => told_bad bb W ((HBW.out W hW).hand W (Below.refl _ _)) ((HBW.out W hW).bad W (Below.refl _ _)))
        clear hA HV5
        unfold badV at TN ⊢
        go_wp2_with (fail)
        refine (TN.out _ (by with_reducible repeat (first | exact kb_refl _ | apply kb_drew))).mono ?_
        rintro e w6 ⟨rfl, hb6⟩
        go_wp2
        go_ret
        exact told_mk (t := badS) HD5.out HO5.out (kb_below (by with_reducible repeat (first | exact kb_refl _ | apply kb_drew)) hb6) rfl (by rw [HA.out]; rfl)
  · have HT2 := hide (fun (W : World) (hW : Kb w1 W) => TK.out W hW _ (Or.inr rfl))
    have hn1 : ¬ n + 1 = 1 := by omega
    clear hcut hlen hcl hps hz hA hws hw1 hd1 hnd hB1 hc1 hl1 hn h hd hs TK HNIL hlw hb1 hlt1
    go_enter Tryz.func13, Tryz.ntmps13
    go_wp2_with (fail)
    refine SP.out.mono ?_
    rintro e w2 ⟨rfl, rfl⟩
    go_wp2_with (fail)
    go_region_held3 (fun W => W.cell? ⟨w.heap.size, 0, none⟩ = some (.string p0))
      (exact CE.out _ (by with_reducible repeat (first | assumption | apply lx_drew)))
      ((go_at_call 34; refine (HT2.out _ (by with_reducible repeat (first | assumption | apply kb_drew))).mono ?_; rintro e w5 ⟨⟨t5, v5, rfl, hv5⟩, hD5, hO5⟩; have L5 : Lx w2 g SC w5 := hO5; have c5 := CE.out _ L5))
    all_goals
      have HBW := hide (fun (W : World) (hW : Kb w5 W) => (HBS.out w5 L5).on (hD5.base (lx_kb hW)))
      have HD5 := hide hD5
      have HO5 := hide (HO1.out w5 L5)
      have HV5 := hide hv5
      clear hD5 hO5 hv5 L5 L1 K1 c0 c5 CE HT2 HBS HO1
      rcases HV5.out with ⟨rfl, hA⟩ | ⟨k, k1, k9, rfl, hA⟩ | ⟨rfl, hA⟩
      · have HA := hide hA
        clear hA HV5
        go_wp2
        go_ret
        exact told_mk HD5.out HO5.out (by with_reducible repeat (first | exact kb_refl _ | apply kb_drew)) rfl HA.out
      · have HA := hide hA
        have TN := hide (fun (W : World) (hW : Kb w5 W) => told_errno k W (by omega) k9 ((HBW.out W hW).hand W (Below.refl _ _)))
        clear hA HV5 k1 k9
        go_wp2_with (fail)
        refine (TN.out _ (by with_reducible repeat (first | exact kb_refl _ | apply kb_drew))).mono ?_
        rintro e w6 ⟨rfl, hb6⟩
        go_wp2
        go_ret
        exact told_mk (t := { data := (errN k).toArray }) HD5.out HO5.out (kb_below (by with_reducible repeat (first | exact kb_refl _ | apply kb_drew)) hb6) rfl (by rw [HA.out])
      · have HA := hide hA
        have TN := hide (fun (W : World) (hW : Kb w5 W) => told_bad bb W ((HBW.out W hW).hand W (Below.refl _ _)) ((HBW.out W hW).bad W (Below.refl _ _)))
        clear hA HV5
        unfold badV at TN ⊢
        go_wp2_with (fail)
        refine (TN.out _ (by with_reducible repeat (first | exact kb_refl _ | apply kb_drew))).mono ?_
        rintro e w6 ⟨rfl, hb6⟩
        go_wp2
        go_ret
        exact told_mk (t := badS) HD5.out HO5.out (kb_below (by with_reducible repeat (first | exact kb_refl _ | apply kb_drew)) hb6) rfl (by rw [HA.out]; rfl)
end Go.Proofs.YtjkcplpmhjnahaaGreatDoor.Run
