/-
  Contracts of package run's row of numbers (decimal, a blank between), and of number, seal, whether, which put an error beside it; what is laid off the shelf of strings.Join and strings.Builder.
-/
import Derived.Test.YtjkcplpmhjnahaaGreatDoorPack2
import Derived.Test.YtjkcplpmhjnahaaGreatDoorQRunErr2
namespace Go.Proofs.YtjkcplpmhjnahaaGreatDoor.Run
open Go.ChangeShapes Go.WideShapes Go.ChangeAt Go.RowKit
open Go.Proofs.YtjkcplpmhjnahaaGreatDoor.M Go.Proofs.YtjkcplpmhjnahaaGreatDoor.Image
set_option linter.unusedVariables false

theorem extra : Builder.Extra Tryz.prog Tryz.lays156_ren where
  sizeBuilder := by kernel_rfl
  liesBuilder := by kernel_rfl
  t5 := Tryz.underlying5
  a5 := Tryz.isAgg5
  z5 := Tryz.sizeOf5
  v5 := Tryz.zeroValue5
  infoByte := by kernel_rfl
  cellsByte := by kernel_rfl
  sizeByte := by kernel_rfl
  neB5 := by decide
theorem ownS_below {w w' : World} {B : Nat} {T : TypeId} {v : Value} {xs : List ByteArray} (h : OwnS w B T v xs) (hb : Below w.heap.size w w') : OwnS w' B T v xs := by
  refine ⟨h.1, ?_⟩
  rcases h.2 with h2 | ⟨g, cap, cur, h1, h2, h3, h4⟩
  · exact Or.inl h2
  · exact Or.inr ⟨g, cap, cur, h1, h2, blk_below h3 hb, h4⟩
theorem ownS_row {w : World} {B : Nat} {T : TypeId} {v : Value} {xs : List ByteArray} (h : OwnS w B T v xs) (hl : 0 < xs.length) :
    ∃ g cap, v = .slice (some ⟨g, 0, none⟩) xs.length cap ∧ xs.length ≤ cap ∧ g < w.heap.size ∧ ∀ (i : Nat) x, xs[i]? = some x → w.cell? ⟨g, 0 + i, none⟩ = some (.string x) := by
  obtain ⟨a, cap0, e0, hc0⟩ := h.slice
  rcases h.2 with ⟨_, h0⟩ | ⟨g, cap, cur, e, _, hg, hc, _⟩
  · omega
  · refine ⟨g, cap, e, hc, blk_lt hg, fun i x hx => ?_⟩
    obtain ⟨g', e1, e2⟩ := hc0 i x hx
    rw [e0, e1] at e
    injection e with e3 _ _
    injection e3 with e3
    injection e3 with e3 _
    rw [Nat.zero_add, ← e3]
    exact e2
theorem join_any (g c : Nat) (xs : List ByteArray) (w : World) (hc : ∀ (i : Nat) x, xs[i]? = some x → w.cell? ⟨g, 0 + i, none⟩ = some (.string x)) (hg : g < w.heap.size) (hn : xs.length ≤ 1000) (hcap : xs.length ≤ c) (hl : (Lib.join (xs.map (fun x => x.data.toList)) [32]).length ≤ 1000) :
    Calls Tryz.prog 107 #[.slice (some ⟨g, 0, none⟩) xs.length c, .string { data := #[32] }] w fun e w' => e = .returned (.string { data := (Lib.join (xs.map (fun x => x.data.toList)) [32]).toArray }) ∧ Below w.heap.size w w' :=
  Any.strings_Join Tryz.lays156 extra g 0 c xs { data := #[32] } w hc hg (by omega) hcap (by
    have h2 : ({ data := #[32] } : ByteArray).data.toList = [32] := rfl
    rw [h2]
    omega)
theorem info_str : (Tryz.prog.info? 9).map (fun i => (i.zero, i.size, i.bytes)) = some (some (.string ByteArray.empty), 1, 16) := by kernel_rfl
/-- A number as text. -/
def itB (n : Int) : ByteArray := { data := (Lib.itoa n).toArray }
theorem itB_data (n : Int) : (itB n).data.toList = Lib.itoa n := by simp [itB]
set_option maxHeartbeats 4000000 in
theorem row_any (xs : List Int) (a : Option Addr) (cap : Nat) (w : World) (hr : Row w a xs) (hx : ∀ x ∈ xs, -9223372036854775808 ≤ x ∧ x ≤ 9223372036854775807) (h1 : 0 < xs.length) (h2 : xs.length ≤ 1000) (hl : (Lib.join (xs.map Lib.itoa) [32]).length ≤ 1000) (hh : Has w) :
    Calls Tryz.prog 82 #[.slice a xs.length cap] w fun e w' => e = .returned (.string { data := (Lib.join (xs.map Lib.itoa) [32]).toArray }) ∧ Below w.heap.size w w' := by
  have HR := hide hr
  have HX := hide hx
  have HH := hide hh
  have HL := hide (show (Lib.join ((xs.map itB).map (fun x => x.data.toList)) [32]).length ≤ 1000 by rw [List.map_map, show ((fun x : ByteArray => x.data.toList) ∘ itB) = Lib.itoa from funext itB_data]; exact hl)
  have HJ := hide (show (xs.map itB).map (fun x => x.data.toList) = xs.map Lib.itoa by rw [List.map_map, show ((fun x : ByteArray => x.data.toList) ∘ itB) = Lib.itoa from funext itB_data])
  have H1 := hide h1
  have H2 := hide h2
  clear hr hx hh hl h1 h2
  go_enter Tryz.func82, Tryz.ntmps82
  go_wp2
  go_loopw [3, 5, 8] (fun s3 _ s8 wr => ∃ k : Nat, k ≤ xs.length ∧ s8 = .int .i64 k ∧ Hid (OwnS wr w.heap.size 9 s3 ((xs.take k).map itB)) ∧ Hid (Below w.heap.size w wr)) (fun _ _ i _ => xs.length - (intOf i).toNat)
  case atStart => exact ⟨0, by omega, rfl, OwnS.nil _ _ _, Below.refl _ _⟩
  case round =>
    obtain ⟨k, hk, rfl, HO, HB⟩ := hrel
    have hsz := HB.out.size
    by_cases hlt : k < xs.length
    · have hltz : (k : Int) < xs.length := by omega
      obtain ⟨x, hxk⟩ : ∃ x, xs[k]? = some x := ⟨_, List.getElem?_eq_getElem hlt⟩
      have hrow : ∃ b off, a = some ⟨b, off, none⟩ ∧ wr.cell? ⟨b, off + k, none⟩ = some (.int .i64 x) := by
        rcases HR.out.below HB.out with h | ⟨b, off, h1, h2⟩
        · rw [h] at hlt; simp at hlt
        · exact ⟨b, off, h1, h2 k x hxk⟩
      obtain ⟨b, off, rfl, hc⟩ := hrow
      obtain ⟨hx0, hx1⟩ := HX.out x (List.mem_of_getElem? hxk)
      have IT := hide (fun (W : World) (hW : Below w.heap.size w W) => itoa_any x W hx0 hx1 (HH.out.below hW))
      have HT := hide (show (xs.take (k + 1)).map itB = (xs.take k).map itB ++ [itB x] by rw [take_snoc hxk]; simp)
      have HLN : Hid (((xs.take k).map itB).length ≤ 2000000) := hide (by rw [List.length_map, List.length_take]; have := H2.out; omega)
      have HK : Hid (k < xs.length ∧ w.heap.size ≤ wr.heap.size) := ⟨hlt, hsz⟩
      have hkw : IntKind.i64.wrap ((k : Int) + 1) = (k : Int) + 1 := wrap_mid (by omega) (by have := H2.out; omega)
      clear hxk hx0 hx1 hlt hk hsz
      go_wp2_with (fail)
      refine (IT.out _ HB.out).mono ?_
      rintro e w5 ⟨rfl, hb5⟩
      have HB5 := hide (HB.out.trans (hb5.mono HK.out.2))
      have HO5 := hide (ownS_below HO.out hb5)
      have HS5 := hide HB5.out.size
      clear hb5 hc
      go_wp2_with (at_builtin; refine wpList_appS rfl _ _ 23 rfl w.heap.size 9 info_str Tryz.underlying23 _ ((xs.take k).map itB) rfl (HO5.out.alloc _) ⟨w5.heap.size, 0, none⟩ (itB x) rfl (by simp [itB]) HLN.out (by have := HS5.out; simp; omega) ?_; intro v' w6 ho hgr)
      go_roundw
      case rel => exact ⟨k + 1, HK.out.1, by have := HK.out.1; have := H2.out; go_num, by rw [HT.out]; exact ho, (HB5.out.alloc HS5.out _).grown hgr (by have := HS5.out; simp; omega) (fun k hk => HO5.out.block k hk)⟩
      case measure => have := HK.out.1; have := H2.out; simp [intOf]; omega
    · have htk : xs.take k = xs := List.take_of_length_le (by omega)
      rw [htk] at HO
      obtain ⟨g, cg, hv, hcg, hgl, hcell⟩ := ownS_row HO.out (by rw [List.length_map]; exact H1.out)
      have JN := hide (join_any g cg (xs.map itB) wr hcell hgl (by rw [List.length_map]; exact H2.out) hcg HL.out)
      rw [HJ.out, List.length_map] at JN
      subst hv
      have hltz : ¬ (k : Int) < xs.length := by omega
      have HSZ := hide hsz
      clear hcell htk HO hcg hgl hk hlt hsz
      go_wp2_with (fail)
      refine JN.out.mono ?_
      rintro e w5 ⟨rfl, hb5⟩
      go_wp2
      go_ret
      exact ⟨rfl, HB.out.trans (hb5.mono HSZ.out)⟩
/-- Rows of one int, and of two, that were just laid. -/
theorem row_new (w : World) (n : Int) (T : TypeId) : Row (w.alloc (.cells #[.int .i64 n] T)) (some ⟨w.heap.size, 0, none⟩) [n] := Row.one _ _ _ (by rw [cell_of_row _ _ _ _ _ _ (blk_new w _)]; rfl)
theorem row_pair (w : World) (p a : Int) (T : TypeId) : Row (w.alloc (.cells #[.int .i64 p, .int .i64 a] T)) (some ⟨w.heap.size, 0, none⟩) [p, a] := by
  refine Or.inr ⟨_, 0, rfl, fun k x hx => ?_⟩
  rw [Nat.zero_add, cell_of_row _ _ _ _ _ _ (blk_new w _)]
  match k with
  | 0 => cases hx; rfl
  | 1 => cases hx; rfl
  | k + 2 => simp at hx
theorem digs_itoa {n : Int} (h : 0 ≤ n) : Lib.itoa n = digs n := by
  obtain ⟨m, rfl⟩ : ∃ m : Nat, n = m := ⟨n.toNat, by omega⟩
  rw [itoa_nat]
  rfl
theorem row_one (x : Int) (a : Option Addr) (cap : Nat) (w : World) (hr : Row w a [x]) (h0 : 0 ≤ x) (h1 : x < 1000003) (hh : Has w) :
    Calls Tryz.prog 82 #[.slice a 1 cap] w fun e w' => e = .returned (.string { data := (digs x).toArray }) ∧ Below w.heap.size w w' := by
  have hd : Lib.join ([x].map Lib.itoa) [32] = digs x := by rw [List.map_cons, List.map_nil, Lib.join_one, digs_itoa h0]
  have := row_any [x] a cap w hr (fun y hy => by rw [List.mem_singleton.1 hy]; omega) (by simp) (by simp) (by rw [hd]; have := digs_len h0 h1; omega) hh
  rw [hd] at this
  exact this
theorem row_two (x y : Int) (a : Option Addr) (cap : Nat) (w : World) (hr : Row w a [x, y]) (h0 : 0 ≤ x) (h1 : x < 1000003) (h2 : 0 ≤ y) (h3 : y < 1000003) (hh : Has w) :
    Calls Tryz.prog 82 #[.slice a 2 cap] w fun e w' => e = .returned (.string { data := (digs x ++ [32] ++ digs y).toArray }) ∧ Below w.heap.size w w' := by
  have hd : Lib.join ([x, y].map Lib.itoa) [32] = digs x ++ [32] ++ digs y := by
    rw [List.map_cons, List.map_cons, List.map_nil, Lib.join_cons, digs_itoa h0, digs_itoa h2]
    simp [Lib.joinTail]
  have := row_any [x, y] a cap w hr (fun z hz => by rcases List.mem_cons.1 hz with rfl | hz; omega; rw [List.mem_singleton.1 hz]; omega) (by simp) (by simp) (by
    rw [hd]
    have := digs_len h0 h1
    have := digs_len h2 h3
    simp
    omega) hh
  rw [hd] at this
  exact this
set_option maxHeartbeats 2000000 in
theorem number_any (n : Int) (v : Value) (w : World) (h0 : 0 ≤ n) (h1 : n < 1000003) (hh : Has w) :
    Calls Tryz.prog 58 #[.int .i64 n, v] w fun e w' => e = .returned (.tuple #[.string { data := (digs n).toArray }, v]) ∧ Below w.heap.size w w' := by
  have RO := hide (fun (W : World) (hW : Below w.heap.size w W) (a : Option Addr) (cap : Nat) (hr : Row W a [n]) => row_one n a cap W hr h0 h1 (hh.below hW))
  clear hh h0 h1
  go_enter Tryz.func58, Tryz.ntmps58
  go_wp2_with (fail)
  refine (RO.out _ (by go_grown) _ _ (row_new w n _)).mono ?_
  rintro e w1 ⟨rfl, hb1⟩
  go_wp2
  go_ret2
  exact ⟨rfl, below_on (below_new _ _) hb1⟩
set_option maxHeartbeats 2000000 in
theorem seal_any (p a : Int) (v : Value) (w : World) (h0 : 0 ≤ p) (h1 : p < 1000003) (h2 : 0 ≤ a) (h3 : a < 1000003) (hh : Has w) :
    Calls Tryz.prog 65 #[.agg #[.int .i64 p, .int .i64 a], v] w fun e w' => e = .returned (.tuple #[.string { data := (digs p ++ [32] ++ digs a).toArray }, v]) ∧ Below w.heap.size w w' := by
  have RO := hide (fun (W : World) (hW : Below w.heap.size w W) (b : Option Addr) (cap : Nat) (hr : Row W b [p, a]) => row_two p a b cap W hr h0 h1 h2 h3 (hh.below hW))
  generalize ({ data := (digs p ++ [32] ++ digs a).toArray } : ByteArray) = tx at RO ⊢
  clear hh h0 h1 h2 h3
  go_enter Tryz.func65, Tryz.ntmps65
  go_wp2_with (fail)
  refine (RO.out _ (by go_grown) (some ⟨w.heap.size + 1, 0, none⟩) 2 (by have := row_pair (w.alloc (.cells #[.int .i64 p, .int .i64 a] 64)) p a 3; simpa using this)).mono ?_
  rintro e w1 ⟨rfl, hb1⟩
  go_wp2
  go_ret2
  exact ⟨rfl, below_on (below_on (below_new _ _) (below_new _ _)) hb1⟩
theorem whether_any (is : Bool) (v : Value) (w : World) :
    Calls Tryz.prog 61 #[.bool is, v] w fun e w' => e = .returned (.tuple #[.string { data := (if is = true then ansYes else ansNo).toArray }, v]) ∧ w' = w := by
  cases is
  all_goals
    go_enter Tryz.func61, Tryz.ntmps61
    go_wp2
    go_ret2
    exact ⟨rfl, rfl⟩
end Go.Proofs.YtjkcplpmhjnahaaGreatDoor.Run
