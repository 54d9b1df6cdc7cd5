/-
  What the library's variables hold that strconv reads, and contracts of strconv.Itoa, strconv.Atoi and strings.Clone as the program calls them, over the shelf's; memory that was there stays as it was.
-/
import Derived.Test.YtdbpeikijonjmaaDoorImg1
import Derived.Test.YtdbpeikijonjmaaDoorTextMath
import Derived.Shelf.Strconv.Atoi
import Derived.Shelf.Strconv.AtoiErr
import Derived.Shelf.Strconv.Itoa3
import Derived.Shelf.Strconv.Clone
import Derived.WalkSmall
import Derived.Lib.AtoiErrMem
namespace Go.Proofs.YtdbpeikijonjmaaDoor.Image
open Go.ChangeShapes Go.WideShapes Go.ChangeAt Go.RowKit
open Go.Proofs.YtdbpeikijonjmaaDoor.M
set_option linter.unusedVariables false

/-- The table of powers of ten is there, and the error of a text that is no number is some error's value. -/
def Has (w : World) : Prop :=
  (1 < w.heap.size ∧ ∀ nm : String, Tryd.prog.globalNamed nm = some 1 → w.var? Tryd.prog nm = some (Lib.pow10Tab.map fun z => Value.int .u64 z).toArray) ∧
    ∃ tp p, w.cell? ⟨3, 0, none⟩ = some (.iface tp p)
theorem Has.below {w w' : World} (h : Has w) (hb : Below w.heap.size w w') : Has w' := by
  obtain ⟨⟨h1, h2⟩, tp, p, h3⟩ := h
  refine ⟨⟨Nat.lt_of_lt_of_le h1 hb.size, fun nm hg => var?_below hb hg h1 (h2 nm hg)⟩, tp, p, ?_⟩
  rw [hb.cell (p := ⟨3, 0, none⟩) (World.block_lt_of_cell? w _ h3)]
  exact h3

theorem itoa_any (n : Int) (w : World) (h0 : -9223372036854775808 ≤ n) (h1 : n ≤ 9223372036854775807) (hh : Has w) :
    Calls Tryd.prog 22 #[.int .i64 n] w fun e w' => e = .returned (.string { data := (Lib.itoa n).toArray }) ∧ Below w.heap.size w w' :=
  (Any.strconv_Itoa Tryd.lays171 n h0 h1 w (hh.1.2 _ (by kernel_rfl))).mono fun _ _ ⟨he, k, os, hw⟩ => ⟨he, by
    rw [hw]
    exact ⟨rfl, rfl, rfl, by show w.heap.size ≤ (w.heap ++ os).size; rw [Array.size_append]; omega, fun j hj => by show (w.heap ++ os)[j]? = w.heap[j]?; rw [Array.getElem?_append_left hj]⟩⟩
theorem atoi_some (s : ByteArray) (n : Int) (w : World) (hl : s.size ≤ 18) (h : Lib.atoi s.data.toList = some n) :
    Calls Tryd.prog 34 #[.string s] w fun e w' => e = .returned (.tuple #[.int .i64 n, .nilIface]) ∧ Below w.heap.size w w' :=
  (Any.strconv_Atoi (ρ := Tryd.lays172_ren) { Tryd.lays172 with } s n hl h w).mono fun _ _ ⟨he, t, hw⟩ => ⟨he, by rw [hw]; exact Lib.bytesWorld_below _ _ _⟩
theorem atoi_none (s : ByteArray) (w : World) (hl : s.size ≤ 18) (h : Lib.atoi s.data.toList = none) (hh : Has w) :
    Calls Tryd.prog 34 #[.string s] w fun e w' => (∃ (T : TypeId) (a : Addr), e = .returned (.tuple #[.int .i64 0, .iface T (.pointer (some a))])) ∧ Below w.heap.size w w' := by
  obtain ⟨_, tp, p, h3⟩ := hh
  exact (Any.strconv_Atoi_err Tryd.lays172 s hl h (.iface tp p) w h3 (Or.inr ⟨tp, p, rfl⟩)).mono fun _ _ ⟨N, he, _, _, hb⟩ => ⟨⟨_, _, he⟩, hb⟩
theorem clone_any (s : ByteArray) (w : World) (hl : s.size ≤ 140737488351232) :
    Calls Tryd.prog 35 #[.string s] w fun e w' => e = .returned (.string s) ∧ Below w.heap.size w w' := by
  go_enter Tryd.func35, Tryd.ntmps35
  go_wp2_with (go_at_call 47; refine (Any.stringslite_Clone Tryd.lays316 s _ ?_).mono ?_; omega; rintro e w' ⟨rfl, hb⟩)
  go_ret
  exact ⟨rfl, hb⟩
end Go.Proofs.YtdbpeikijonjmaaDoor.Image
