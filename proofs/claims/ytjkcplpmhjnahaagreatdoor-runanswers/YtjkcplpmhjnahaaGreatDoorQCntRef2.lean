/-
  Contract of what package stairref2 says on counts (Raise): what it returns, what becomes of the object, and that all else stays as it was.
-/
import Derived.Test.YtjkcplpmhjnahaaGreatDoorQCntRef
import Derived.Maps.AppendAt
namespace Go.Proofs.YtjkcplpmhjnahaaGreatDoor.CntRef
open Go.ChangeShapes Go.WideShapes Go.ChangeAt Go.RowKit
open Go.Proofs.YtjkcplpmhjnahaaGreatDoor.M
set_option linter.unusedVariables false

theorem ofC_hit {s : ByteArray} {m : Int} : ∀ {cs : List (ByteArray × Int)} {k : Nat}, cs[k]? = some (s, m) → (∀ (j : Nat) (c : ByteArray × Int), j < k → cs[j]? = some c → c.1 ≠ s) → ofC cs s = m := by
  intro cs k hk hn
  rw [ofC_skip hn]
  obtain ⟨h1, h2⟩ := List.getElem?_eq_some_iff.1 hk
  rw [List.drop_eq_getElem_cons h1, h2, ofC, if_pos rfl]
theorem ofC_set {s : ByteArray} {m x : Int} : ∀ {cs : List (ByteArray × Int)} {k : Nat}, cs[k]? = some (s, m) → (∀ (j : Nat) (c : ByteArray × Int), j < k → cs[j]? = some c → c.1 ≠ s) → ofC (cs.set k (s, x)) = updF (ofC cs) s x
  | [], k, h, _ => by simp at h
  | c :: r, 0, h, _ => by
    simp at h
    subst h
    funext t
    unfold updF
    by_cases e : t = s
    · rw [if_pos e, e]
      simp [ofC]
    · rw [if_neg e]
      have e' : ¬ s = t := fun h => e h.symm
      simp [ofC, e']
  | c :: r, k + 1, h, hn => by
    have h0 : c.1 ≠ s := hn 0 c (by omega) rfl
    have ih := ofC_set (s := s) (m := m) (x := x) (cs := r) (k := k) (by simpa using h) (fun j d hj hd => hn (j + 1) d (by omega) (by simpa using hd))
    funext t
    have ih' := congrFun ih t
    rw [List.set_cons_succ]
    unfold updF at ih' ⊢
    rw [ofC, ofC]
    by_cases e : t = s
    · rw [if_pos e] at ih' ⊢
      rw [if_neg (by rw [e]; exact h0), ih']
    · rw [if_neg e] at ih' ⊢
      rw [ih']
theorem ofC_none {s : ByteArray} {cs : List (ByteArray × Int)} (hn : ∀ (j : Nat) (c : ByteArray × Int), j < cs.length → cs[j]? = some c → c.1 ≠ s) : ofC cs s = 0 := by
  rw [ofC_skip hn, List.drop_eq_nil_of_le (Nat.le_refl _)]
  rfl
theorem ofC_snoc {s : ByteArray} {x : Int} : ∀ {cs : List (ByteArray × Int)}, (∀ (j : Nat) (c : ByteArray × Int), j < cs.length → cs[j]? = some c → c.1 ≠ s) → ofC (cs ++ [(s, x)]) = updF (ofC cs) s x
  | [], _ => by
    funext t
    unfold updF
    by_cases e : t = s
    · rw [if_pos e, e]; simp [ofC]
    · have e' : ¬ s = t := fun h => e h.symm
      rw [if_neg e]; simp [ofC, e']
  | c :: r, hn => by
    have h0 : c.1 ≠ s := hn 0 c (by simp) rfl
    have ih := ofC_snoc (s := s) (x := x) (cs := r) (fun j d hj hd => hn (j + 1) d (by simp; omega) (by simpa using hd))
    funext t
    have ih' := congrFun ih t
    rw [List.cons_append]
    unfold updF at ih' ⊢
    rw [ofC, ofC]
    by_cases e : t = s
    · rw [if_pos e] at ih' ⊢
      rw [if_neg (by rw [e]; exact h0), ih']
    · rw [if_neg e] at ih' ⊢
      rw [ih']
theorem flat_set {s : ByteArray} {m x : Int} : ∀ {cs : List (ByteArray × Int)} {k : Nat}, cs[k]? = some (s, m) → (cs.flatMap lstV).set (k * 2 + 1) (.int .i64 x) = (cs.set k (s, x)).flatMap lstV
  | [], k, h => by simp at h
  | c :: r, 0, h => by
    simp at h
    subst h
    simp [lstV]
  | c :: r, k + 1, h => by
    have ih := flat_set (s := s) (m := m) (x := x) (cs := r) (k := k) (by simpa using h)
    rw [List.set_cons_succ, List.flatMap_cons, List.flatMap_cons, ← ih, show (k + 1) * 2 + 1 = (k * 2 + 1) + 2 by omega]
    rfl
/-- The least version of one record of a row of the call's own, written. -/
theorem own_set {w : World} {B : Nat} {T : TypeId} {g cap : Nat} {cs : List (ByteArray × Int)} {k : Nat} {s : ByteArray} {m x : Int} (h : OwnR 2 lstV w B T (.slice (some ⟨g, 0, none⟩) cs.length cap) cs) (hk : cs[k]? = some (s, m)) :
    w.cell? ⟨g, k * 2, none⟩ = some (.string s) ∧ w.cell? ⟨g, k * 2 + 1, none⟩ = some (.int .i64 m) ∧ w.frozen? ⟨g, k * 2 + 1, none⟩ = false ∧ OwnR 2 lstV (w.setCell ⟨g, k * 2 + 1, none⟩ (.int .i64 x)) B T (.slice (some ⟨g, 0, none⟩) cs.length cap) (cs.set k (s, x)) := by
  obtain ⟨a, cap', hv, _, hr⟩ := h.row lstV_len
  cases hv
  obtain ⟨b, off, e, hc⟩ := hr.at hk
  cases e
  have c0 := hc 0 (.string s) rfl
  have c1 := hc 1 (.int .i64 m) rfl
  simp only [Nat.zero_add, Nat.add_zero] at c0 c1
  obtain ⟨h1, h2⟩ := h
  rcases h2 with ⟨h3, _⟩ | ⟨g', cap'', cur, h3, h4, h5, h6, h7, h8, h9⟩
  · cases h3
  · cases h3
    refine ⟨c0, c1, by simp [World.frozen?, h5], ?_⟩
    have hl : k < cs.length := (List.getElem?_eq_some_iff.1 hk).1
    rw [setCell_eq_setRow w g _ _ _ _ _ h5]
    refine ⟨by rw [← flat_set hk, List.length_set, List.length_set]; exact h1, Or.inr ⟨g, cap, cur.setIfInBounds (k * 2 + 1) (.int .i64 x), by rw [List.length_set], h4, setRow_heap _ _ _ _ _ _ h5, by rw [List.length_set]; exact h6, h7, by simpa using h8, ?_⟩⟩
    rw [List.length_set, ← flat_set hk, ← h9, Array.toList_setIfInBounds, List.take_set]
/-- 'x = append(x, y)' where x is a row of records of the call's own: a law for the walk, with the block that it lies in. -/
theorem wpList_appOne {P : Program} {w : World} {ops : Array Oper} {rest : List Oper} {o : Oper} {a : Act} {Q : Exit → Act → World → Prop} (hgd : o.guard = none) (s x : Operand) (t : TypeId)
    (ho : o.op = .call { callee := .builtin .append, args := #[s, x], argTypes := #[t, t] })
    (base : Nat) (e : TypeId) (z : Value) (bytes : Nat) (hinfo : (P.info? e).map (fun i => (i.zero, i.size, i.bytes)) = some (some z, 2, bytes)) (hz : z.cells.size = 2) (hby : bytes ≤ 1000000) (ht : P.underlying t = some (.slice e))
    (v : Value) (xs : List (ByteArray × Int)) (hs : a.eval s = v) (hown : OwnR 2 lstV w base e v xs)
    (b : Nat) (y : ByteArray × Int) (hx : a.eval x = .slice (some ⟨b, 0, none⟩) 1 1) (hcell : ∀ (j : Nat) (u : Value), (lstV y)[j]? = some u → w.cell? ⟨b, j, none⟩ = some u)
    (hb : xs.length ≤ 1000000) (hbase : base ≤ w.heap.size)
    (h : ∀ v' w', OwnR 2 lstV w' base e v' (xs ++ [y]) → w.grownBy w' v.ownBlock → (v'.ownBlock = v.ownBlock ∨ v'.ownBlock = some w.heap.size) → wpList P ops Q rest (a.put o.dst v') w') : wpList P ops Q (o :: rest) a w := by
  obtain ⟨i, hi, hz0, hz1, hz2⟩ := info_parts hinfo
  have hbb : (xs.length + 1) * bytes ≤ 140737488355328 := Nat.le_trans (Nat.mul_le_mul (Nat.succ_le_succ hb) hby) (by omega)
  refine wpList_append_own_at w hgd s x t ho base e i z 2 bytes ht hi hz0 hz1 hz2 hz (by decide) v xs.length _ hs hown ⟨b, 0, none⟩ 1 1 (lstV y) hx (by rw [lstV_len]) ?_ ?_ (by unfold maxLen; omega) hbb hbase ?_
  · intro j u hj
    rw [add_none, Nat.zero_add]
    exact hcell j u hj
  · intro u hu
    simp [lstV] at hu
    rcases hu with rfl | rfl <;> rfl
  · intro v' w' h2 h3 _ h4
    refine h v' w' ?_ h3 h4
    unfold OwnR
    rw [List.length_append, List.flatMap_append, List.flatMap_singleton]
    exact h2
theorem info_least : (Tryz.prog.info? 86).map (fun i => (i.zero, i.size, i.bytes)) = some (some (.agg #[.string { data := #[] }, .int .i64 0]), 2, 24) := by kernel_rfl
def cfoot (g : Nat) (v : Value) (k : Nat) : Prop := k = g ∨ v.ownBlock = some k
/-- What Raise makes of the counts. -/
def AfterX (rs : List Value) (T : TypeId) (w : World) (B g : Nat) (v : Value) (cs : List (ByteArray × Int)) (s : ByteArray) (x : Int) (w' : World) : Prop :=
  ∃ v' cs', CIx rs T w' B g v' cs' ∧ ofC cs' = raiF (ofC cs) cs.length s x ∧ cs'.length = raiK (ofC cs) cs.length s x ∧ Only (cfoot g v) w w' ∧ (∀ k, cfoot g v' k → cfoot g v k ∨ w.heap.size ≤ k)
abbrev After (w : World) (B g : Nat) (v : Value) (cs : List (ByteArray × Int)) (s : ByteArray) (x : Int) (w' : World) : Prop := AfterX [] 28 w B g v cs s x w'
theorem AfterX.same {rs : List Value} {T : TypeId} {w : World} {B g : Nat} {v : Value} {cs : List (ByteArray × Int)} {s : ByteArray} {x : Int} (h : CIx rs T w B g v cs) (hb : ¬ raiB (ofC cs) cs.length s x = true) : AfterX rs T w B g v cs s x w :=
  ⟨v, cs, h, (raiF_no hb).symm, (raiK_no hb).symm, Only.refl _ _, fun k hk => Or.inl hk⟩
theorem set_one {w : World} {b : Nat} {a z : Value} {rs : List Value} {t : TypeId} {fr : Nat × Nat} (hg : w.heap[b]? = some (.cells (a :: rs).toArray t fr)) : w.setCell ⟨b, 0, none⟩ z = w.setRow b (z :: rs).toArray := by
  rw [setCell_eq_setRow w b 0 _ _ _ z hg]; rfl
theorem own_form {w : World} {B : Nat} {T : TypeId} {v : Value} {cs : List (ByteArray × Int)} (h : OwnR 2 lstV w B T v cs) (hl : 0 < cs.length) : ∃ g cap, v = .slice (some ⟨g, 0, none⟩) cs.length cap := by
  obtain ⟨_, h2⟩ := h
  rcases h2 with ⟨_, h3⟩ | ⟨g, cap, _, h3, _⟩
  · omega
  · exact ⟨g, cap, h3⟩
theorem name_size {s : ByteArray} (h : nameB s = true) : s.size ≤ 8 := by
  unfold nameB at h
  rw [Bool.and_eq_true, decide_eq_true_iff] at h
  exact h.2.2
theorem AfterX.hit {rs : List Value} {T : TypeId} {w : World} {B g g' cap k : Nat} {cs : List (ByteArray × Int)} {s : ByteArray} {m x : Int} (h : CIx rs T w B g (.slice (some ⟨g', 0, none⟩) cs.length cap) cs) (hc : cs[k]? = some (s, m)) (hn : ∀ (j : Nat) (c : ByteArray × Int), j < k → cs[j]? = some c → c.1 ≠ s) (hs : nameB s = true) (hx : 0 ≤ x ∧ x ≤ 1000) (hm : m < x) :
    raiB (ofC cs) cs.length s x = true ∧ AfterX rs T w B g (.slice (some ⟨g', 0, none⟩) cs.length cap) cs s x (w.setCell ⟨g', k * 2 + 1, none⟩ (.int .i64 x)) := by
  have ho := ofC_hit hc hn
  obtain ⟨h1, h2, h3, h4, h5, h6, h7⟩ := h
  have hm0 : 0 < m := h6 _ (List.mem_of_getElem? hc)
  have hb : raiB (ofC cs) cs.length s x = true := raiB_iff.2 ⟨hs, hx, by rw [ho]; exact hm, by rw [ho]; omega⟩
  have hne : g' ≠ g := fun e => h3 (by rw [e]; rfl)
  have hset := (own_set (x := x) h2 hc).2.2.2
  have hmem : ∀ c ∈ cs.set k (s, x), c ∈ cs ∨ c = (s, x) := fun c hcm => List.mem_or_eq_of_mem_set hcm
  refine ⟨hb, .slice (some ⟨g', 0, none⟩) cs.length cap, cs.set k (s, x), ⟨?_, hset, h3, h4, by rw [List.length_set]; exact h5, ?_, ?_⟩, by rw [raiF_yes hb]; exact ofC_set hc hn, ?_, (Only.refl _ w).setCell (p := ⟨g', k * 2 + 1, none⟩) (Or.inr rfl) _, fun k hk => Or.inl hk⟩
  · rw [Below.heap_setCell _ _ _ _ (fun e => hne e.symm)]; exact h1
  · intro c hcm
    rcases hmem c hcm with h | rfl
    · exact h6 c h
    · show 0 < x; omega
  · intro c hcm
    rcases hmem c hcm with h | rfl
    · exact h7 c h
    · exact name_size hs
  · rw [List.length_set]
    unfold raiK
    rw [if_pos hb, if_neg (by rw [ho]; omega)]
theorem AfterX.more {rs : List Value} {T : TypeId} {w w2 w3 : World} {B g : Nat} {v v' : Value} {cs : List (ByteArray × Int)} {s : ByteArray} {x : Int} (h : CIx rs T w B g v cs) (hn : ∀ (j : Nat) (c : ByteArray × Int), j < cs.length → cs[j]? = some c → c.1 ≠ s) (hs : nameB s = true) (hx : 0 ≤ x ∧ x ≤ 1000) (hm : 0 < x) (h12 : cs.length < 12)
    (h2 : Below w.heap.size w w2) (hsz : w2.heap.size = w.heap.size + 1) (ho3 : OwnR 2 lstV w3 B 86 v' (cs ++ [(s, x)])) (hg3 : w2.grownBy w3 v.ownBlock) (hat : v'.ownBlock = v.ownBlock ∨ v'.ownBlock = some w2.heap.size) :
    raiB (ofC cs) cs.length s x = true ∧ w3.heap[g]? = some (.cells (v :: rs).toArray T) ∧ AfterX rs T w B g v cs s x (w3.setRow g (v' :: rs).toArray) := by
  have ho := ofC_none hn
  obtain ⟨h1, hh2, h3, h4, h5, h6, h7⟩ := h
  have hgl := blk_lt h1
  have hb : raiB (ofC cs) cs.length s x = true := raiB_iff.2 ⟨hs, hx, by rw [ho]; exact hm, by omega⟩
  have hG3 : w3.heap[g]? = some (.cells (v :: rs).toArray T) := (hg3.block g (by omega) (fun e => h3 e.symm)).trans (blk_below h1 h2)
  have hn3 : v'.ownBlock ≠ some g := fun e => by
    rcases hat with h | h
    · exact h3 (h.symm.trans e)
    · rw [h] at e; cases e; omega
  have hown : OwnR 2 lstV (w3.setRow g (v' :: rs).toArray) B 86 v' (cs ++ [(s, x)]) := by
    refine ⟨ho3.1, ?_⟩
    rcases ho3.2 with h | ⟨r, cap, cur, e1, e2, e3, e4⟩
    · exact Or.inl h
    · exact Or.inr ⟨r, cap, cur, e1, e2, (setRow_other _ _ _ _ (fun e => hn3 (by rw [e1, e]; rfl))).trans e3, e4⟩
  refine ⟨hb, hG3, v', cs ++ [(s, x)], ⟨setRow_heap _ _ _ _ _ _ hG3, hown, hn3, h4, by rw [List.length_append]; simp; omega, ?_, ?_⟩, by rw [raiF_yes hb]; exact ofC_snoc hn, ?_, ?_, ?_⟩
  · intro c hcm
    rcases List.mem_append.1 hcm with h | h
    · exact h6 c h
    · rw [List.mem_singleton.1 h]; exact hm
  · intro c hcm
    rcases List.mem_append.1 hcm with h | h
    · exact h7 c h
    · rw [List.mem_singleton.1 h]; exact name_size hs
  · unfold raiK
    rw [if_pos hb, if_pos ho, List.length_append]
    rfl
  · exact ((Only.of_below (S := cfoot g v) h2).grown hg3 (fun k hk => Or.inl (Or.inr hk))).setRow (b := g) (Or.inl rfl) _
  · rintro k (rfl | hk)
    · exact Or.inl (Or.inl rfl)
    · rcases hat with h | h
      · exact Or.inl (Or.inr (h.symm.trans hk))
      · rw [h] at hk; cases hk; exact Or.inr (by omega)
set_option maxHeartbeats 4000000 in
theorem raise_any {rs : List Value} {T : TypeId} (g : Nat) (v : Value) (cs : List (ByteArray × Int)) (s : ByteArray) (x : Int) (w : World) (B : Nat) (h : CIx rs T w B g v cs) (hs : s.size ≤ 140737488351232) (hB : B ≤ w.heap.size) :
    Calls Tryz.prog 24 #[.pointer (some ⟨g, 0, none⟩), .string s, .int .i64 x] w fun e w' => e = .returned (.tuple #[.bool (raiB (ofC cs) cs.length s x), .int .i64 (raiE (ofC cs) cs.length s x)]) ∧ AfterX rs T w B g v cs s x w' := by
  have OF := hide (of_any g v cs s w B h)
  have NM := hide (name_any s w hs)
  have HC := hide h
  have HSA := hide (fun hb => AfterX.same (s := s) (x := x) h hb)
  have HRE := hide (show raiE (ofC cs) cs.length s x = if nameB s = true then (if 0 ≤ x ∧ x ≤ 1000 then (if x ≤ ofC cs s then 0 else if ofC cs s = 0 ∧ 12 ≤ cs.length then 4 else 0) else 1) else 3 from rfl)
  have HRB := hide (raiB_iff (f := ofC cs) (k := cs.length) (nm := s) (v := x))
  clear h
  cases hn : nameB s with
  | false =>
    obtain ⟨e1, e2⟩ := raiE_name (f := ofC cs) (k := cs.length) (v := x) hn
    rw [e1, e2]
    rw [hn] at NM
    have HA := hide (HSA.out (by rw [e2]; decide))
    clear e1 e2
    go_enter Tryz.func24, Tryz.ntmps24
    go_wp2_with (fail)
    refine NM.out.mono ?_
    rintro e w' ⟨rfl, hw⟩
    rw [hw]
    clear hw
    go_wp2
    go_ret2
    exact ⟨rfl, HA.out⟩
  | true =>
    rw [hn] at NM HRE HRB
    rw [if_pos rfl] at HRE
    by_cases hr : 0 ≤ x ∧ x ≤ 1000
    · rw [if_pos hr] at HRE
      obtain ⟨x0, x1⟩ := hr
      by_cases hle : x ≤ ofC cs s
      · rw [if_pos hle] at HRE
        have e2 : raiB (ofC cs) cs.length s x = false := by
          cases hb : raiB (ofC cs) cs.length s x with
          | false => rfl
          | true => have := (HRB.out.1 hb).2.2.1; omega
        have HA := hide (HSA.out (by rw [e2]; decide))
        rw [e2, HRE.out]
        clear e2
        generalize ofC cs s = o at *
        go_enter Tryz.func24, Tryz.ntmps24
        go_wp2_with (fail)
        refine NM.out.mono ?_
        rintro e w' ⟨rfl, hw⟩
        rw [hw]
        clear hw
        go_wp2_with (fail)
        refine OF.out.mono ?_
        rintro e w' ⟨rfl, hw⟩
        rw [hw]
        clear hw
        go_wp2
        go_ret2
        exact ⟨rfl, HA.out⟩
      · rw [if_neg hle] at HRE
        have HLE := hide hle
        have HOF := hide (show ofC cs s = ofC cs s from rfl)
        obtain ⟨a, cap, hv, _, hrow⟩ := HC.out.2.1.row lstV_len
        have r0 := one_cell HC.out.1
        rw [hv] at r0
        have HR := hide hrow
        have h12 := HC.out.2.2.2.2.1
        clear hrow
        generalize ho : ofC cs s = o at OF HLE hle
        have HO := hide ho
        clear ho HOF
        go_enter Tryz.func24, Tryz.ntmps24
        go_wp2_with (fail)
        refine NM.out.mono ?_
        rintro e w' ⟨rfl, hw⟩
        rw [hw]
        clear hw
        go_wp2_with (fail)
        refine OF.out.mono ?_
        rintro e w' ⟨rfl, hw⟩
        rw [hw]
        clear hw
        go_wp2
        go_loopw [9] (fun s9 wr => ∃ k : Nat, k ≤ cs.length ∧ s9 = .int .i64 k ∧ Hid (∀ (j : Nat) (c : ByteArray × Int), j < k → cs[j]? = some c → c.1 ≠ s) ∧ wr = w) (fun s9 _ => cs.length - (intOf s9).toNat)
        case atStart => exact ⟨0, by omega, rfl, (fun j c hj => by omega : ∀ (j : Nat) (c : ByteArray × Int), j < 0 → cs[j]? = some c → c.1 ≠ s), rfl⟩
        case round =>
          obtain ⟨k, hk, rfl, HS, rfl⟩ := hrel
          by_cases hlt : k < cs.length
          · have hlz : (k : Int) < cs.length := by omega
            obtain ⟨⟨nm, m⟩, hc⟩ : ∃ c, cs[k]? = some c := ⟨cs[k]'hlt, List.getElem?_eq_getElem hlt⟩
            by_cases he : nm = s
            · subst he
              obtain ⟨g', cap', hv2⟩ := own_form HC.out.2.1 (by omega)
              rw [hv] at hv2
              cases hv2
              subst hv
              have HM := hide (show m < x by have := ofC_hit hc HS.out; rw [HO.out] at this; have := HLE.out; omega)
              obtain ⟨hb, haf⟩ := AfterX.hit HC.out hc HS.out hn ⟨x0, x1⟩ HM.out
              obtain ⟨c0, c1, f1, _⟩ := own_set (x := x) HC.out.2.1 hc
              have HAF := hide haf
              have HBB := hide hb
              have HEE := hide (raiE_rise hb)
              clear haf hb hc
              go_wp2
              go_ret2
              exact ⟨by rw [HBB.out, HEE.out]; rfl, HAF.out⟩
            · obtain ⟨b, off, rfl, hcell⟩ := HR.out.at hc
              have c0 := hcell 0 (.string nm) rfl
              simp only [Nat.add_zero] at c0
              have hq2 := str_ne he
              have HS2 := hide (show ∀ (j : Nat) (c : ByteArray × Int), j < k + 1 → cs[j]? = some c → c.1 ≠ s from fun j c hj hjc => by
                by_cases e : j = k
                · subst e; rw [hc] at hjc; cases hjc; exact he
                · exact HS.out j c (by omega) hjc)
              clear hc hcell
              go_wp2
              go_roundw
              case rel => exact ⟨k + 1, by omega, by go_num, HS2.out, by trivial⟩
              case measure => simp [intOf]; omega
          · have hke : k = cs.length := by omega
            subst hke
            have hlz : ¬ (cs.length : Int) < cs.length := by omega
            have ho0 := ofC_none HS.out
            have hxp : 0 < x := by have h1 := HLE.out; have h2 := HO.out; rw [ho0] at h2; omega
            by_cases hfull : 12 ≤ cs.length
            · have hfz : (12 : Int) ≤ cs.length := by omega
              subst hv
              have e2 : raiB (ofC cs) cs.length s x = false := by
                cases hb : raiB (ofC cs) cs.length s x with
                | false => rfl
                | true => exact absurd ⟨ho0, hfull⟩ (HRB.out.1 hb).2.2.2
              have HA := hide (HSA.out (by rw [e2]; decide))
              have HB2 := hide e2
              have HE2 := hide (HRE.out.trans (if_pos ⟨ho0, hfull⟩))
              clear e2 ho0 hfull
              go_wp2
              go_ret2
              exact ⟨by rw [HB2.out, HE2.out]; rfl, HA.out⟩
            · have hfz : ¬ (12 : Int) ≤ cs.length := by omega
              have hf12 : cs.length < 12 := by omega
              subst hv
              clear ho0 hfull
              have hcn : ∀ (j : Nat) (u : Value), (lstV (s, x))[j]? = some u → (wr.alloc (.cells #[.string s, .int .i64 x] 86)).cell? ⟨wr.heap.size, j, none⟩ = some u := fun j u hu => by
                rw [cell_of_row _ _ _ _ _ _ (blk_new wr (.cells #[.string s, .int .i64 x] 86))]
                match j with
                | 0 => simpa [lstV] using hu
                | 1 => simpa [lstV] using hu
                | j + 2 => simp [lstV] at hu
              have HCN := hide hcn
              have HOA : Hid (OwnR 2 lstV (wr.alloc (.cells #[.string s, .int .i64 x] 86)) B 86 (.slice a cs.length cap) cs) := HC.out.2.1.alloc _
              have f0 : wr.frozen? ⟨g, 0, none⟩ = false := frozen_of_row wr g 0 _ _ HC.out.1
              have hgl := blk_lt HC.out.1
              clear hcn
              go_wp2_with (at_builtin; refine wpList_appOne rfl _ _ 26 rfl B 86 _ 24 info_least rfl (by omega) Tryz.underlying26 (.slice a cs.length cap) cs rfl HOA.out wr.heap.size (s, x) rfl HCN.out (by omega) (by simp; omega) ?_; intro v8 w8 ho8 hg8 hat8; obtain ⟨hb8, hG8, haf8⟩ := AfterX.more HC.out HS.out hn ⟨x0, x1⟩ hxp hf12 (below_new wr (.cells #[.string s, .int .i64 x] 86)) (by simp) ho8 hg8 hat8; have d0 := one_cell hG8; have d1 : w8.frozen? ⟨g, 0, none⟩ = false := frozen_of_row w8 g 0 _ _ hG8; obtain ⟨a8, c8, hv8, _, _⟩ := ho8.row lstV_len; subst hv8)
              have HAF := hide haf8
              have HBB := hide hb8
              have HEE := hide (raiE_rise hb8)
              have hln : (cs ++ [(s, x)]).length = cs.length + 1 := by simp
              rw [hln] at HAF
              rw [set_one hG8]
              go_ret2
              exact ⟨by first | (rw [HBB.out, HEE.out]; rfl) | (rw [HEE.out]; rfl) | rfl, HAF.out⟩
    · rw [if_neg hr] at HRE
      have e2 : raiB (ofC cs) cs.length s x = false := by
        cases hb : raiB (ofC cs) cs.length s x with
        | false => rfl
        | true => exact absurd (HRB.out.1 hb).2.1 hr
      have HA := hide (HSA.out (by rw [e2]; decide))
      rw [e2, HRE.out]
      clear e2
      by_cases h0 : x < 0
      · clear hr
        go_enter Tryz.func24, Tryz.ntmps24
        go_wp2_with (fail)
        refine NM.out.mono ?_
        rintro e w' ⟨rfl, hw⟩
        rw [hw]
        clear hw
        go_wp2
        go_ret2
        exact ⟨rfl, HA.out⟩
      · have h1 : 1000 < x := by omega
        clear hr
        go_enter Tryz.func24, Tryz.ntmps24
        go_wp2_with (fail)
        refine NM.out.mono ?_
        rintro e w' ⟨rfl, hw⟩
        rw [hw]
        clear hw
        go_wp2
        go_ret2
        exact ⟨rfl, HA.out⟩
theorem CIx.has {rs : List Value} {T : TypeId} {W : World} {B g : Nat} {v : Value} {cs : List (ByteArray × Int)} (h : CIx rs T W B g v cs) : ∀ k, cfoot g v k → B ≤ k ∧ k < W.heap.size := by
  rintro k (rfl | hk)
  · exact ⟨h.2.2.2.1, blk_lt h.1⟩
  · exact World.ownsRow.lt h.2.1 k hk
theorem CIx.only {rs : List Value} {T : TypeId} {W W' : World} {S : Nat → Prop} {B g : Nat} {v : Value} {cs : List (ByteArray × Int)} (h : CIx rs T W B g v cs) (ho : Only S W W') (hn : ∀ k, cfoot g v k → ¬ S k) : CIx rs T W' B g v cs := by
  obtain ⟨h1, h2, h3, h4, h5, h6, h7⟩ := h
  refine ⟨ho.heap h1 (hn g (Or.inl rfl)), ?_, h3, h4, h5, h6, h7⟩
  refine ⟨h2.1, ?_⟩
  rcases h2.2 with h | ⟨r, cap, cur, e1, e2, e3, e4⟩
  · exact Or.inl h
  · exact Or.inr ⟨r, cap, cur, e1, e2, ho.heap e3 (hn r (Or.inr (by rw [e1]; rfl))), e4⟩
theorem CIx.below {rs : List Value} {T : TypeId} {W W' : World} {B g : Nat} {v : Value} {cs : List (ByteArray × Int)} (h : CIx rs T W B g v cs) (hb : Below W.heap.size W W') : CIx rs T W' B g v cs :=
  h.only (Only.of_below (S := fun _ => False) hb) (fun _ _ hf => hf)
end Go.Proofs.YtjkcplpmhjnahaaGreatDoor.CntRef
