/-
  Contract of stairref1's Cut at a blank, for every text of at most so many bytes that its parts fit in memory: the parts; memory that was there stays as it was.
-/
import Derived.Test.YtdbpeikijonjmaaDoorRef3
import Derived.Deep.LoopGhost
namespace Go.Proofs.YtdbpeikijonjmaaDoor.M
open Go.RowKit
/-- A row of texts of the call's own. -/
def OwnS (w : World) (base : Nat) (e : TypeId) (v : Value) (xs : List ByteArray) : Prop := w.ownsRow base e 1 v xs.length (xs.map Value.string)
theorem OwnS.nil (w : World) (base : Nat) (e : TypeId) : OwnS w base e (.slice none 0 0) [] := World.ownsRow_nil w base e 1
theorem OwnS.alloc {w : World} {base : Nat} {e : TypeId} {v : Value} {xs : List ByteArray} (h : OwnS w base e v xs) (o : Obj) : OwnS (w.alloc o) base e v xs := World.ownsRow.alloc h o
theorem OwnS.block {w : World} {base : Nat} {e : TypeId} {v : Value} {xs : List ByteArray} (h : OwnS w base e v xs) : ∀ k, v.ownBlock = some k → base ≤ k := fun k hk => (World.ownsRow.lt h k hk).1
theorem OwnS.slice {w : World} {base : Nat} {e : TypeId} {v : Value} {xs : List ByteArray} (h : OwnS w base e v xs) : ∃ a cap, v = .slice a xs.length cap ∧ ∀ k x, xs[k]? = some x → ∃ g, a = some ⟨g, 0, none⟩ ∧ w.cell? ⟨g, k, none⟩ = some (.string x) := by
  have h0 := h
  obtain ⟨_, h2⟩ := h
  rcases h2 with ⟨hv, hn⟩ | ⟨g, cap, cur, hv, _, _, _, _, _, _⟩
  · refine ⟨none, 0, by rw [hv, hn], fun k x hx => ?_⟩
    rw [List.length_eq_zero_iff.1 hn] at hx
    simp at hx
  · refine ⟨some ⟨g, 0, none⟩, cap, hv, fun k x hx => ⟨g, rfl, ?_⟩⟩
    have hc := World.ownsRow.cells (g := g) h0 (by rw [hv]; rfl) k (.string x) (by rw [List.getElem?_map, hx]; rfl)
    rw [add_none] at hc
    simpa using hc
theorem wpList_appS {P : Program} {w : World} {ops : Array Oper} {rest : List Oper} {o : Oper} {a : Act} {Q : Exit → Act → World → Prop} (hgd : o.guard = none) (s x : Operand) (t : TypeId)
    (ho : o.op = .call { callee := .builtin .append, args := #[s, x], argTypes := #[t, t] })
    (base : Nat) (e : TypeId) (hinfo : (P.info? e).map (fun i => (i.zero, i.size, i.bytes)) = some (some (.string ByteArray.empty), 1, 16)) (ht : P.underlying t = some (.slice e))
    (v : Value) (xs : List ByteArray) (hs : a.eval s = v) (hown : OwnS w base e v xs)
    (ad : Addr) (y : ByteArray) (hx : a.eval x = .slice (some ad) 1 1) (hcell : w.cell? ad = some (.string y))
    (hb : xs.length ≤ 2000000) (hbase : base ≤ w.heap.size)
    (h : ∀ v' w', OwnS w' base e v' (xs ++ [y]) → w.grownBy w' v.ownBlock → wpList P ops Q rest (a.put o.dst v') w') : wpList P ops Q (o :: rest) a w := by
  obtain ⟨i, hi, hz0, hz1, hz2⟩ := info_parts hinfo
  refine wpList_append_own w hgd s x t ho base e i (.string ByteArray.empty) 1 16 ht hi hz0 hz1 hz2 rfl (by decide) v xs.length _ hs hown ad 1 1 [.string y] hx (by simp) ?_ ?_ (by unfold maxLen; omega) (by omega) hbase ?_
  · intro j u hj
    cases j with
    | zero =>
      simp at hj
      subst hj
      have : ad.add 0 = ad := by cases ad with | mk b off spot => cases spot <;> simp [Addr.add]
      simpa [this] using hcell
    | succ j => simp at hj
  · intro u hu
    simp at hu
    subst hu
    rfl
  · intro v' w' h1 h2 _
    exact h v' w' (by unfold OwnS; rw [List.map_append, List.length_append]; exact h1) h2
theorem extract_list (s : ByteArray) (a b : Nat) : (s.extract a b).data.toList = (s.data.toList.drop a).take (b - a) := Lib.extract_data s a b
theorem ext_step {l : List UInt8} {f k : Nat} {b : UInt8} (h : l[k]? = some b) (hf : f ≤ k) : (l.drop f).take (k + 1 - f) = (l.drop f).take (k - f) ++ [b] := by
  rw [show k + 1 - f = k - f + 1 by omega, List.take_add_one]
  congr 1
  rw [List.getElem?_drop, show f + (k - f) = k by omega, h]
  rfl
theorem drop_at {l : List UInt8} {k : Nat} {b : UInt8} (h : l[k]? = some b) : l.drop k = b :: l.drop (k + 1) := by
  obtain ⟨hk, e⟩ := List.getElem?_eq_some_iff.1 h
  rw [List.drop_eq_getElem_cons hk, e]
end Go.Proofs.YtdbpeikijonjmaaDoor.M
namespace Go.Proofs.YtdbpeikijonjmaaDoor.Ref
open Go.ChangeShapes Go.WideShapes Go.ChangeAt Go.RowKit
open Go.Proofs.YtdbpeikijonjmaaDoor.M Go.Proofs.YtdbpeikijonjmaaDoor.Image
set_option linter.unusedVariables false

theorem info_str : (Tryd.prog.info? 9).map (fun i => (i.zero, i.size, i.bytes)) = some (some (.string ByteArray.empty), 1, 16) := by kernel_rfl

set_option maxHeartbeats 4000000 in
theorem cut_any (s : ByteArray) (w : World) (hs : s.size ≤ 1048576) :
    Calls Tryd.prog 23 #[.string s, .int .u8 32] w fun e w' => (∃ v ps, e = .returned v ∧ OwnS w' w.heap.size 9 v ps ∧ ps.map (fun x => x.data.toList) = cutL s.data.toList) ∧ Below w.heap.size w w' := by
  go_enter Tryd.func23, Tryd.ntmps23
  go_wp2
  go_loopw [5, 6, 7] (fun out from_ i wr => ∃ (k f : Nat) (ps : List ByteArray), k ≤ s.size ∧ f ≤ k ∧ i = .int .i64 k ∧ from_ = .int .i64 f ∧ ps.length ≤ k ∧ Hid (OwnS wr w.heap.size 9 out ps) ∧ Hid (Below w.heap.size w wr) ∧
    Hid (ps.map (fun x => x.data.toList) ++ cutAcc ((s.data.toList.drop f).take (k - f)) (s.data.toList.drop k) = cutL s.data.toList)) (fun _ _ i _ => s.size - (intOf i).toNat)
  case atStart => exact ⟨0, 0, [], by omega, by omega, rfl, rfl, by simp, OwnS.nil _ _ _, Below.refl _ _, (show ([] : List ByteArray).map (fun x => x.data.toList) ++ cutAcc ((s.data.toList.drop 0).take (0 - 0)) (s.data.toList.drop 0) = cutL s.data.toList by simp [cutL])⟩
  case round =>
    obtain ⟨k, f, ps, hk, hf, rfl, rfl, hp, HO, HB, HC⟩ := hrel
    have hsz := HB.out.size
    by_cases hlt : k < s.size
    · have HX : Hid (s.data.toList[k]? = some s[k]) := at_some hlt
      have c1 : (0 : Int) ≤ f := by omega
      have c2 : (f : Int) ≤ k := by omega
      have c3 : (k : Int) ≤ s.size := by omega
      by_cases h32 : s[k] = 32
      · have h32z : ((s[k]).toNat : Int) = 32 := by rw [h32]; rfl
        have HS : Hid ((ps ++ [s.extract f k]).map (fun x => x.data.toList) ++ cutAcc ((s.data.toList.drop (k + 1)).take (k + 1 - (k + 1))) (s.data.toList.drop (k + 1)) = cutL s.data.toList) := by
          show (ps ++ [s.extract f k]).map (fun x => x.data.toList) ++ cutAcc ((s.data.toList.drop (k + 1)).take (k + 1 - (k + 1))) (s.data.toList.drop (k + 1)) = cutL s.data.toList
          rw [← HC.out, drop_at HX.out, cutAcc, if_pos h32, List.map_append, List.map_singleton, extract_list]
          simp
        clear h32
        go_wp2_with (at_builtin; refine wpList_appS rfl _ _ 50 rfl w.heap.size 9 info_str Tryd.underlying50 _ ps rfl (HO.out.alloc _) ⟨wr.heap.size, 0, none⟩ (s.extract f k) rfl (by simp) (by omega) (by simp; omega) ?_; intro v' w1 ho hgr)
        go_roundw
        case rel => exact ⟨k + 1, k + 1, ps ++ [s.extract f k], by omega, by omega, by go_num, by go_num, by simp; omega, ho, (HB.out.alloc hsz _).grown hgr (by simp; omega) (fun k hk => HO.out.block k hk), HS.out⟩
        case measure => simp [intOf]; omega
      · have h32z : ¬ ((s[k]).toNat : Int) = 32 := by
          intro e
          apply h32
          apply UInt8.toNat_inj.1
          have : (32 : UInt8).toNat = 32 := rfl
          omega
        have HS : Hid (ps.map (fun x => x.data.toList) ++ cutAcc ((s.data.toList.drop f).take (k + 1 - f)) (s.data.toList.drop (k + 1)) = cutL s.data.toList) := by
          show ps.map (fun x => x.data.toList) ++ cutAcc ((s.data.toList.drop f).take (k + 1 - f)) (s.data.toList.drop (k + 1)) = cutL s.data.toList
          rw [← HC.out, drop_at HX.out, cutAcc, if_neg h32, ext_step HX.out hf]
        clear h32
        go_wp2
        go_roundw
        case rel => exact ⟨k + 1, f, ps, by omega, by omega, by go_num, rfl, by omega, HO.out, HB.out, HS.out⟩
        case measure => simp [intOf]; omega
    · have hk2 : k = s.size := by omega
      subst hk2
      have HS : Hid ((ps ++ [s.extract f s.size]).map (fun x => x.data.toList) = cutL s.data.toList) := by
        show (ps ++ [s.extract f s.size]).map (fun x => x.data.toList) = cutL s.data.toList
        rw [← HC.out, show s.data.toList.drop s.size = [] from List.drop_eq_nil_of_le (by rw [len_size]; exact Nat.le_refl _), cutAcc, List.map_append, List.map_singleton, extract_list]
      have c1 : (0 : Int) ≤ f := by omega
      have c2 : (f : Int) ≤ s.size := by omega
      go_wp2_with (at_builtin; refine wpList_appS rfl _ _ 50 rfl w.heap.size 9 info_str Tryd.underlying50 _ ps rfl (HO.out.alloc _) ⟨wr.heap.size, 0, none⟩ (s.extract f s.size) rfl (by simp) (by omega) (by simp; omega) ?_; intro v' w1 ho hgr)
      go_ret
      exact ⟨⟨v', ps ++ [s.extract f s.size], rfl, ho, HS.out⟩, (HB.out.alloc hsz _).grown hgr (by simp; omega) (fun k hk => HO.out.block k hk)⟩
end Go.Proofs.YtdbpeikijonjmaaDoor.Ref
