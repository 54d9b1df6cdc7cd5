/-
  Several texts in one: Plain mathematics on measures: one step modulo 1000003, a row of numbers taken step by step, a text taken byte by byte; nothing of the program stands here. / Plain laws, over any program, on rows of ints in memory: one that can be read, one that the call itself made, and what append makes of the latter; what string of one byte is. / Plain facts on blocks of memory, over any program: what a block held it holds, and a row of three ints laid in a block of its own. / Plain mathematics on images: which texts are of letters alone, what is wrong with an image, and that a search by runes for what is no letter finds one just where a byte is none. / Contracts of package measure's functions (step, isMeasure, Two, row, All, Of) over this translation: what each returns, and that memory stays as it was. / Plain laws, over any program, on worlds that are alike but for some blocks: what a call that writes to its own object alone leaves as it was; append to a row of ints of the call's own, with the block that it lies in. / Plain mathematics on counts: a least version of each name; what raising one makes of it, and what may be; the names that a law lays. / Plain mathematics on logs: the records that are there, how many bytes each has, how many are safe, when it stops; what raising, syncing and crashing make of one, and the counts that the records make. / The library's functions that the program reaches (strconv.Itoa, strconv.Atoi, stringslite.Clone, strings.Index, strings.ContainsFunc, bytes.IndexByte, stringslite.Index), held body by body against those of which the shelf's contracts speak. / Contracts of package image's isLetters, IsVersion and Check: whether a text is of letters alone, and what is wrong with an image; memory that was there stays as it was. / Plain mathematics on texts: which texts are numbers of at most four digits and that they are just those that are printed, and how a text is cut at blanks, whole or as far as four parts. / What the library's variables hold that strconv reads, and contracts of strconv.Itoa, strconv.Atoi and strings.Clone as the program calls them, over the shelf's; memory that was there stays as it was. / What is to be proved of package log's object, whatever it is made of: how it lies in memory, and what New, Raise, Sync, Fail, Crash, Least, Bytes and Safe do to it. / Plain laws, over any program, on rows of records in memory, n cells each: one that can be read, one that the call itself made, and what append makes of the latter; how a slice of records among the arguments reads, opened. / Contracts of what package stairref1 says on names, and package stairref2 on counts (Of, May): each returns what the plain mathematics says, and memory stays as it was.
-/
import Derived.Below
import Derived.WalkKit
import Derived.ProofKit
import Derived.OwnWalk
import Derived.Laws.AppendOwnNone
import Derived.Laws.BytesArg
import Derived.Laws.Rows
import Derived.Lib.DecodeN
import Derived.Shelf.GgClosure.StringsIndexFunc
import Derived.Test.YtgnpffkfbacejaaGreatDoorRows
import Derived.Handy
import Derived.Maps.AppendAt
import Derived.Shelf.Strconv.AtoiErr
import Derived.Shelf.Strconv.Itoa3
import Derived.Shelf.Strings.Search3
import Derived.Shelf.Strconv.Clone
import Derived.Shelf.Bytes.SlIndexAt
import Derived.Shelf.Strings.Search2
import Derived.Shelf.GgClosure.StringsIndexFuncTop
import Derived.Test.YtgnpffkfbacejaaGreatDoorProg
import Derived.Lib.Atoi
import Derived.Lib.ItoaNum
import Derived.Lib.Split
import Derived.Lib.IndexBytes
import Derived.Shelf.Strconv.Atoi
import Derived.WalkSmall
import Derived.Lib.AtoiErrMem
import Derived.OpenShut
import Derived.ChangeSame
import Derived.ChangeArms
import Derived.RowKit
namespace Go.Proofs.YtgnpffkfbacejaaGreatDoor.M

theorem hide {p : Prop} (h : p) : Go.RowKit.Hid p := h

/-- One step of a measure. -/
def stp (t m n : Int) : Int := (t * m + n + 1) % 1000003
theorem stp_ge (t m n : Int) : 0 ≤ stp t m n := by unfold stp; omega
theorem stp_lt (t m n : Int) : stp t m n < 1000003 := by unfold stp; omega
theorem stp_inj (t m a b : Int) (ha : 0 ≤ a) (ha' : a < 1000003) (hb : 0 ≤ b) (hb' : b < 1000003) (h : stp t m a = stp t m b) : a = b := by
  unfold stp at h
  generalize t * m = q at h
  omega

/-- Is it a measure? -/
def isM (n : Int) : Bool := decide (0 ≤ n ∧ n < 1000003)
theorem isM_iff {n : Int} : isM n = true ↔ 0 ≤ n ∧ n < 1000003 := by unfold isM; simp
theorem isM_false {n : Int} : isM n = false ↔ ¬ (0 ≤ n ∧ n < 1000003) := by unfold isM; simp

/-- Are both measures? -/
def both (a b : Int) : Bool := isM a && isM b
theorem both_left {a b : Int} (h : isM a = true) : both a b = isM b := by unfold both; rw [h]; rfl
theorem both_no {a b : Int} (h : isM a = false) : both a b = false := by unfold both; rw [h]; rfl
theorem both_iff {a b : Int} : both a b = true ↔ isM a = true ∧ isM b = true := by unfold both; rw [Bool.and_eq_true]

/-- A row of numbers, step by step. -/
def allFrom (m : Int) (xs : List Int) : Int := xs.foldl (fun m x => stp 7919 m x) m
def okAll (xs : List Int) : Bool := xs.all isM
theorem take_one {α : Type} {xs : List α} {k : Nat} {x : α} (h : xs[k]? = some x) : xs.take (k + 1) = xs.take k ++ [x] := by
  rw [List.take_add_one, h]; rfl
theorem allFrom_take {m : Int} {xs : List Int} {k : Nat} {x : Int} (h : xs[k]? = some x) : allFrom m (xs.take (k + 1)) = stp 7919 (allFrom m (xs.take k)) x := by
  rw [take_one h]; simp [allFrom]
theorem allFrom_snoc (m : Int) (xs : List Int) (x : Int) : allFrom m (xs ++ [x]) = stp 7919 (allFrom m xs) x := by simp [allFrom]
theorem allFrom_range (m : Int) (xs : List Int) (h0 : 0 ≤ m) (h1 : m < 1000003) : 0 ≤ allFrom m xs ∧ allFrom m xs < 1000003 := by
  unfold allFrom
  induction xs generalizing m with
  | nil => exact ⟨h0, h1⟩
  | cons x r ih => exact ih (stp 7919 m x) (stp_ge _ _ _) (stp_lt _ _ _)
theorem okAll_of {xs : List Int} (h : ∀ (k : Nat) (x : Int), xs[k]? = some x → isM x = true) : okAll xs = true := by
  unfold okAll
  rw [List.all_eq_true]
  intro x hx
  obtain ⟨k, hk, e⟩ := List.mem_iff_getElem.1 hx
  exact h k x (by rw [List.getElem?_eq_getElem hk, e])
theorem okAll_at {xs : List Int} (h : okAll xs = true) {k : Nat} {x : Int} (hx : xs[k]? = some x) : isM x = true := by
  unfold okAll at h
  exact List.all_eq_true.1 h x (List.mem_of_getElem? hx)
theorem okAll_not {xs : List Int} {k : Nat} {x : Int} (hx : xs[k]? = some x) (hb : isM x = false) : okAll xs = false := by
  cases h : okAll xs with
  | false => rfl
  | true => rw [okAll_at h hx] at hb; cases hb
theorem okAll_snoc (xs : List Int) (x : Int) : okAll (xs ++ [x]) = (okAll xs && isM x) := by simp [okAll]

/-- A text, byte by byte. -/
def ofFrom (m : Int) (l : List UInt8) : Int := l.foldl (fun m c => stp 257 m c.toNat) m
theorem ofFrom_take {m : Int} {l : List UInt8} {k : Nat} {c : UInt8} (h : l[k]? = some c) : ofFrom m (l.take (k + 1)) = stp 257 (ofFrom m (l.take k)) c.toNat := by
  rw [take_one h]; simp [ofFrom]
theorem ofFrom_snoc (m : Int) (l : List UInt8) (c : UInt8) : ofFrom m (l ++ [c]) = stp 257 (ofFrom m l) c.toNat := by simp [ofFrom]
theorem ofFrom_range (m : Int) (l : List UInt8) (h0 : 0 ≤ m) (h1 : m < 1000003) : 0 ≤ ofFrom m l ∧ ofFrom m l < 1000003 := by
  unfold ofFrom
  induction l generalizing m with
  | nil => exact ⟨h0, h1⟩
  | cons x r ih => exact ih (stp 257 m x.toNat) (stp_ge _ _ _) (stp_lt _ _ _)
end Go.Proofs.YtgnpffkfbacejaaGreatDoor.M
namespace Go.Proofs.YtgnpffkfbacejaaGreatDoor.M
open Go.RowKit

/-- A slice of numbers that stand in memory: none at all, or a row of cells from one address on. -/
def Row (w : World) (a : Option Addr) (xs : List Int) : Prop :=
  xs = [] ∨ ∃ b off, a = some ⟨b, off, none⟩ ∧ ∀ (k : Nat) (x : Int), xs[k]? = some x → w.cell? ⟨b, off + k, none⟩ = some (.int .i64 x)

theorem add_none (b off k : Nat) : (⟨b, off, none⟩ : Addr).add k = ⟨b, off + k, none⟩ := by unfold Addr.add; split <;> simp_all

theorem Row.one (b : Nat) (n : Int) (w : World) (h : w.cell? ⟨b, 0, none⟩ = some (.int .i64 n)) : Row w (some ⟨b, 0, none⟩) [n] := by
  refine Or.inr ⟨b, 0, rfl, fun k x hx => ?_⟩
  cases k with
  | zero => simp at hx; subst hx; exact h
  | succ k => simp at hx
theorem Row.below {w w' : World} {a : Option Addr} {xs : List Int} (h : Row w a xs) (hb : Below w.heap.size w w') : Row w' a xs := by
  rcases h with h | ⟨b, off, ha, hc⟩
  · exact Or.inl h
  · refine Or.inr ⟨b, off, ha, fun k x hx => ?_⟩
    have h1 := hc k x hx
    rw [hb.cell (p := ⟨b, off + k, none⟩) (World.block_lt_of_cell? w _ h1)]
    exact h1

/-- An error value and its number: none is nought; else an error of type T that is an int. -/
def IsErr (T : TypeId) (v : Value) (k : Int) : Prop := (v = .nilIface ∧ k = 0) ∨ v = .iface T (.int .i64 k)
def errV (T : TypeId) (k : Int) : Value := if k = 0 then .nilIface else .iface T (.int .i64 k)
theorem isErr_errV (T : TypeId) (k : Int) : IsErr T (errV T k) k := by
  unfold errV
  by_cases h : k = 0
  · rw [if_pos h]; exact Or.inl ⟨rfl, h⟩
  · rw [if_neg h]; exact Or.inr rfl
theorem errV_zero (T : TypeId) : errV T 0 = .nilIface := rfl
theorem errV_one (T : TypeId) : errV T 1 = .iface T (.int .i64 1) := rfl

/-- The fault and the measure of a text, of two numbers, of a row. -/
def ofC (s : ByteArray) : Int := if 24 < s.size then 4 else 0
def ofV (s : ByteArray) : Int := if 24 < s.size then 0 else ofFrom 1 s.data.toList
def twoC (a b : Int) : Int := if isM a = true ∧ isM b = true then 0 else 1
def twoV (a b : Int) : Int := if isM a = true ∧ isM b = true then stp 7919 a b else 0
def allC (xs : List Int) : Int := if 30 < xs.length then 4 else if okAll xs = true then 0 else 1
def allV (xs : List Int) : Int := if 30 < xs.length then 0 else if okAll xs = true then allFrom 0 xs else 0
theorem twoC_ok {a b : Int} (ha : isM a = true) (hb : isM b = true) : twoC a b = 0 := if_pos ⟨ha, hb⟩
theorem twoV_ok {a b : Int} (ha : isM a = true) (hb : isM b = true) : twoV a b = stp 7919 a b := if_pos ⟨ha, hb⟩
theorem twoC_bad {a b : Int} (h : ¬ (isM a = true ∧ isM b = true)) : twoC a b = 1 := if_neg h
theorem twoV_bad {a b : Int} (h : ¬ (isM a = true ∧ isM b = true)) : twoV a b = 0 := if_neg h

/-- A row of ints that the call itself made. -/
def Own (w : World) (base : Nat) (e : TypeId) (v : Value) (xs : List Int) : Prop := w.ownsRow base e 1 v xs.length (xs.map (Value.int .i64))
theorem Own.nil (w : World) (base : Nat) (e : TypeId) : Own w base e (.slice none 0 0) [] := World.ownsRow_nil w base e 1
theorem Own.alloc {w : World} {base : Nat} {e : TypeId} {v : Value} {xs : List Int} (h : Own w base e v xs) (o : Obj) : Own (w.alloc o) base e v xs := World.ownsRow.alloc h o
theorem Own.row {w : World} {base : Nat} {e : TypeId} {v : Value} {xs : List Int} (h : Own w base e v xs) : ∃ a cap, v = .slice a xs.length cap ∧ (a = none → cap = 0) ∧ Row w a xs := by
  have h0 := h
  obtain ⟨_, h2⟩ := h
  rcases h2 with ⟨hv, hn⟩ | ⟨g, cap, cur, hv, _, _, _, _, _, _⟩
  · exact ⟨none, 0, by rw [hv, hn], fun _ => rfl, Or.inl (List.length_eq_zero_iff.1 hn)⟩
  · refine ⟨some ⟨g, 0, none⟩, cap, hv, fun hno => (by cases hno), Or.inr ⟨g, 0, rfl, fun k x hx => ?_⟩⟩
    have hc := World.ownsRow.cells (g := g) h0 (by rw [hv]; rfl) k (.int .i64 x) (by rw [List.getElem?_map, hx]; rfl)
    rw [add_none] at hc
    exact hc
theorem Own.block {w : World} {base : Nat} {e : TypeId} {v : Value} {xs : List Int} (h : Own w base e v xs) : ∀ k, v.ownBlock = some k → base ≤ k := fun k hk => (World.ownsRow.lt h k hk).1

/-- 'x = append(x, ys...)' where x is a row of ints of the call's own and ys can be read: a law for the walk. -/
theorem wpList_app {P : Program} {w : World} {ops : Array Oper} {rest : List Oper} {o : Oper} {a : Act} {Q : Exit → Act → World → Prop} (hgd : o.guard = none) (s x : Operand) (t : TypeId)
    (ho : o.op = .call { callee := .builtin .append, args := #[s, x], argTypes := #[t, t] })
    (base : Nat) (e : TypeId) (hinfo : (P.info? e).map (fun i => (i.zero, i.size, i.bytes)) = some (some (.int .i64 0), 1, 8)) (ht : P.underlying t = some (.slice e))
    (v : Value) (xs : List Int) (hs : a.eval s = v) (hown : Own w base e v xs)
    (ad : Option Addr) (m c : Nat) (ys : List Int) (hx : a.eval x = .slice ad m c) (hm : m = ys.length) (hc : ad = none → c = 0) (hrow : Row w ad ys)
    (hb : xs.length + ys.length ≤ 1000000) (hbase : base ≤ w.heap.size)
    (h : ∀ v' w', Own w' base e v' (xs ++ ys) → w.grownBy w' v.ownBlock → wpList P ops Q rest (a.put o.dst v') w') : wpList P ops Q (o :: rest) a w := by
  obtain ⟨i, hi, hz0, hz1, hz2⟩ := info_parts hinfo
  subst hm
  cases ad with
  | none =>
    have hy : ys = [] := by
      rcases hrow with h | ⟨b, off, h, _⟩
      · exact h
      · cases h
    subst hy
    rw [hc rfl] at hx
    refine wpList_append_own_none hgd s x t ho base e i 1 ht hi v xs.length _ hs hown hx (h v w (by simpa using hown) ⟨rfl, rfl, rfl, Nat.le_refl _, fun _ _ _ => rfl⟩)
  | some ad =>
    refine wpList_append_own w hgd s x t ho base e i (.int .i64 0) 1 8 ht hi hz0 hz1 hz2 rfl (by decide) v xs.length _ hs hown ad ys.length c (ys.map (Value.int .i64)) hx (by simp) ?_ ?_ (by unfold maxLen; omega) (by omega) hbase ?_
    · intro j u hj
      rw [List.getElem?_map] at hj
      obtain ⟨y, hy, rfl⟩ := Option.map_eq_some_iff.1 hj
      rcases hrow with h | ⟨b, off, h, hcell⟩
      · subst h; simp at hy
      · cases h
        rw [add_none]
        exact hcell j y hy
    · intro u hu
      obtain ⟨_, _, rfl⟩ := List.mem_map.1 hu
      rfl
    · intro v' w' h1 h2 _
      refine h v' w' ?_ h2
      have e1 : (xs ++ ys).length = xs.length + ys.length := by simp
      unfold Own
      rw [e1, List.map_append]
      exact h1

/-- string([]byte{c}). -/
theorem run_one_byte {P : Program} (src e dst : TypeId) (hs : P.underlying src = some (.slice e)) (he : P.underlying e = some (.int .u8)) (hd : P.underlying dst = some .string) (c : Int) (t : TypeId) (w : World) (b : Nat) (hb : w.heap.size = b) :
    (convert src dst (.slice (some ⟨b, 0, none⟩) 1 1)).run P (w.alloc (.cells #[.int .u8 c] t)) = .ok (.string (strOfNums [c])) (w.alloc (.cells #[.int .u8 c] t)) :=
  run_convert_bytes_arg _ src e hs he b 0 1 1 [c] rfl (fun i hi => by
    have : i = 0 := by omega
    subst this
    subst hb
    simp) dst hd
theorem app_one_size (s : ByteArray) (c : Int) : (s ++ strOfNums [c]).size = s.size + 1 := by
  rw [ByteArray.size_append, strOfNums_size]; rfl
theorem app_one_list (s : ByteArray) (c : Int) : (s ++ strOfNums [c]).data.toList = s.data.toList ++ [UInt8.ofNat c.toNat] := by
  rw [ByteArray.data_append, Array.toList_append, strOfNums_data]; rfl
theorem byte_back {c : Int} (h0 : 0 ≤ c) (h1 : c ≤ 255) : ((UInt8.ofNat c.toNat).toNat : Int) = c := by
  rw [UInt8.toNat_ofNat']
  omega
end Go.Proofs.YtgnpffkfbacejaaGreatDoor.M
namespace Go.Proofs.YtgnpffkfbacejaaGreatDoor.M
open Go.RowKit

theorem blk_lt {w : World} {b : Nat} {o : Obj} (h : w.heap[b]? = some o) : b < w.heap.size := (Array.getElem?_eq_some_iff.1 h).1
theorem blk_below {w w' : World} {b : Nat} {o : Obj} (h : w.heap[b]? = some o) (hb : Below w.heap.size w w') : w'.heap[b]? = some o := (hb.block b (blk_lt h)).trans h
theorem blk_keep {w : World} {b : Nat} {o : Obj} (h : w.heap[b]? = some o) (o' : Obj) : (w.alloc o').heap[b]? = some o := (Go.RowKit.Below.heap_alloc w o' b (blk_lt h)).trans h
theorem blk_new (w : World) (o : Obj) : (w.alloc o).heap[w.heap.size]? = some o := by
  show (w.heap.push o)[w.heap.size]? = some o
  exact Array.getElem?_push_size
theorem below_new (w : World) (o : Obj) : Below w.heap.size w (w.alloc o) := (Below.refl _ w).alloc (Nat.le_refl _) o
theorem below_on {w w1 w2 : World} (h : Below w.heap.size w w1) (h2 : Below w1.heap.size w1 w2) : Below w.heap.size w w2 := h.trans (h2.mono h.size)
theorem Row.three {w : World} {b : Nat} {p q m : Int} {t : TypeId} {fr : Nat × Nat} (h : w.heap[b]? = some (.cells #[.int .i64 p, .int .i64 q, .int .i64 m] t fr)) : Row w (some ⟨b, 0, none⟩) [p, q, m] := by
  refine Or.inr ⟨b, 0, rfl, fun k x hx => ?_⟩
  have hc : ∀ j, w.cell? ⟨b, j, none⟩ = (#[Value.int .i64 p, .int .i64 q, .int .i64 m])[j]? := fun j => by rw [cell_of_row w b _ _ t fr h]
  rw [Nat.zero_add, hc]
  match k with
  | 0 => simp at hx; subst hx; rfl
  | 1 => simp at hx; subst hx; rfl
  | 2 => simp at hx; subst hx; rfl
  | k + 3 => simp at hx
/-- The cells of a seal, laid in a block of its own. -/
def sealC (p a : Int) : Array Value := #[.int .i64 p, .int .i64 a]
theorem seal_cells {w : World} {b : Nat} {p a : Int} {t : TypeId} {fr : Nat × Nat} (h : w.heap[b]? = some (.cells #[.int .i64 p, .int .i64 a] t fr)) :
    w.cell? ⟨b, 0, none⟩ = some (.int .i64 p) ∧ w.cell? ⟨b, 1, none⟩ = some (.int .i64 a) := by
  refine ⟨?_, ?_⟩ <;> rw [cell_of_row w b _ _ t fr h] <;> rfl
theorem seal_free {w : World} {b : Nat} {c : Array Value} {t : TypeId} (h : w.heap[b]? = some (.cells c t)) :
    w.frozen? ⟨b, 0, none⟩ = false ∧ w.frozen? ⟨b, 1, none⟩ = false := ⟨frozen_of_row w b 0 _ _ h, frozen_of_row w b 1 _ _ h⟩
theorem two_set {w : World} {b : Nat} {a0 a1 x y : Value} {t : TypeId} {fr : Nat × Nat} (hg : w.heap[b]? = some (.cells #[a0, a1] t fr)) :
    (w.setCell ⟨b, 0, none⟩ x).setCell ⟨b, 1, none⟩ y = w.setRow b #[x, y] := by
  rw [setCell_eq_setRow w b 0 _ _ _ x hg]
  have h1 := setRow_heap w b _ (#[a0, a1].setIfInBounds 0 x) t fr hg
  rw [setCell_eq_setRow _ b 1 _ _ _ y h1, setRow_setRow]
  rfl
end Go.Proofs.YtgnpffkfbacejaaGreatDoor.M
namespace Go.Proofs.YtgnpffkfbacejaaGreatDoor.M
open Go.RowKit

/-- Is a byte a letter from a to z? -/
def letB (b : UInt8) : Bool := decide (97 ≤ b.toNat ∧ b.toNat ≤ 122)
/-- Is a text of letters alone? -/
def letS (s : ByteArray) : Bool := s.data.toList.all letB
/-- A rune that is no letter. -/
def offR (r : Nat) : Bool := decide (r < 97) || decide (122 < r)
theorem offR_let (b : UInt8) : offR b.toNat = !letB b := by
  unfold offR letB
  by_cases h1 : b.toNat < 97
  · have : ¬ (97 ≤ b.toNat ∧ b.toNat ≤ 122) := by omega
    simp [h1, this]
  · by_cases h2 : 122 < b.toNat
    · have : ¬ (97 ≤ b.toNat ∧ b.toNat ≤ 122) := by omega
      simp [h1, h2, this]
    · have : 97 ≤ b.toNat ∧ b.toNat ≤ 122 := by omega
      simp [h1, h2, this]
theorem decodeN_high (n b0 b1 b2 b3 : Nat) (h : 128 ≤ b0) : 128 ≤ (Lib.decodeN n b0 b1 b2 b3).1 := by
  unfold Lib.decodeN
  rw [if_neg (by omega)]
  repeat' split
  all_goals (simp only []; omega)
theorem get_at {s : ByteArray} {i : Nat} {b : UInt8} (h : s.data.toList[i]? = some b) : s.get! i = b := by
  obtain ⟨d⟩ := s
  simp only [ByteArray.get!]
  rw [Array.getElem?_toList] at h
  simp [getElem!_def, h]
theorem decode_low {s : ByteArray} {i : Nat} {b : UInt8} (h : s.data.toList[i]? = some b) (hb : b.toNat < 128) : Utf8.decode s i = (b.toNat, 1) := by
  rw [Lib.decode_at, get_at h]
  unfold Lib.decodeN
  rw [if_pos hb]
theorem decode_high {s : ByteArray} {i : Nat} {b : UInt8} (h : s.data.toList[i]? = some b) (hb : ¬ b.toNat < 128) : 128 ≤ (Utf8.decode s i).1 := by
  rw [Lib.decode_at, get_at h]
  exact decodeN_high _ _ _ _ _ (by omega)
theorem len_size (s : ByteArray) : s.data.toList.length = s.size := Array.length_toList
theorem idx_from (s : ByteArray) : ∀ (f pos : Nat), s.size ≤ pos + f → decide (0 ≤ Lib.idxFuncFrom offR true s f pos) = !(s.data.toList.drop pos).all letB
  | 0, pos, h => by
    have e : s.data.toList.drop pos = [] := by
      apply List.drop_eq_nil_of_le
      have := len_size s
      omega
    rw [e]
    simp [Lib.idxFuncFrom]
  | f + 1, pos, h => by
    have hl := len_size s
    unfold Lib.idxFuncFrom
    by_cases hp : pos < s.size
    · obtain ⟨b, hb⟩ : ∃ b, s.data.toList[pos]? = some b := ⟨s.data.toList[pos]'(by omega), List.getElem?_eq_getElem (by omega)⟩
      have hd : s.data.toList.drop pos = b :: s.data.toList.drop (pos + 1) := by
        rw [List.drop_eq_getElem_cons (by omega)]
        congr 1
        rw [List.getElem?_eq_getElem (by omega)] at hb
        exact Option.some.inj hb
      rw [if_pos hp, hd, List.all_cons]
      by_cases h128 : b.toNat < 128
      · rw [decode_low hb h128]
        simp only []
        rw [offR_let]
        cases hB : letB b with
        | false => simp
        | true =>
          have := idx_from s f (pos + 1) (by omega)
          simp only [Bool.not_true, Bool.false_eq_true, if_false, Bool.true_and]
          exact this
      · have hh := decode_high hb h128
        have ho : offR (Utf8.decode s pos).1 = true := by unfold offR; simp; omega
        have hB : letB b = false := by unfold letB; simp; omega
        rw [if_pos ho, hB]
        simp
    · rw [if_neg hp]
      have e : s.data.toList.drop pos = [] := List.drop_eq_nil_of_le (by omega)
      rw [e]
      simp
theorem idx_letters (s : ByteArray) : decide (0 ≤ Lib.idxFunc offR true s) = !letS s := by
  unfold Lib.idxFunc letS
  rw [idx_from s s.size 0 (by omega), List.drop_zero]

/-- What is wrong with an image: the number of the error, 0 for none. -/
def imgE (nm : ByteArray) (v : Int) (cd : ByteArray) : Int :=
  if nm.size = 0 ∨ letS nm = false ∨ letS cd = false then 3 else if 8 < nm.size ∨ 8 < cd.size then 4 else if v < 1 ∨ 1000 < v then 1 else 0
theorem imgE_shape {nm cd : ByteArray} {v : Int} (h : nm.size = 0 ∨ letS nm = false ∨ letS cd = false) : imgE nm v cd = 3 := by unfold imgE; rw [if_pos h]
theorem imgE_full {nm cd : ByteArray} {v : Int} (h : ¬ nm.size = 0) (ha : letS nm = true) (hb : letS cd = true) (hf : 8 < nm.size ∨ 8 < cd.size) : imgE nm v cd = 4 := by
  unfold imgE; rw [if_neg (by simp [h, ha, hb]), if_pos hf]
theorem imgE_range {nm cd : ByteArray} {v : Int} (h : ¬ nm.size = 0) (ha : letS nm = true) (hb : letS cd = true) (hf : ¬ (8 < nm.size ∨ 8 < cd.size)) (hr : v < 1 ∨ 1000 < v) : imgE nm v cd = 1 := by
  unfold imgE; rw [if_neg (by simp [h, ha, hb]), if_neg hf, if_pos hr]
theorem imgE_none {nm cd : ByteArray} {v : Int} (h : ¬ nm.size = 0) (ha : letS nm = true) (hb : letS cd = true) (hf : ¬ (8 < nm.size ∨ 8 < cd.size)) (hr : ¬ (v < 1 ∨ 1000 < v)) : imgE nm v cd = 0 := by
  unfold imgE; rw [if_neg (by simp [h, ha, hb]), if_neg hf, if_neg hr]
theorem imgE_zero {nm cd : ByteArray} {v : Int} (h : imgE nm v cd = 0) : nm.size ≠ 0 ∧ letS nm = true ∧ letS cd = true ∧ nm.size ≤ 8 ∧ cd.size ≤ 8 ∧ 1 ≤ v ∧ v ≤ 1000 := by
  unfold imgE at h
  split at h
  · cases h
  · rename_i h1
    split at h
    · cases h
    · rename_i h2
      split at h
      · cases h
      · rename_i h3
        refine ⟨fun e => h1 (Or.inl e), ?_, ?_, by omega, by omega, by omega, by omega⟩
        · cases e : letS nm with
          | true => rfl
          | false => exact absurd (Or.inr (Or.inl e)) h1
        · cases e : letS cd with
          | true => rfl
          | false => exact absurd (Or.inr (Or.inr e)) h1
/-- The cells of an image. -/
def imgC (nm : ByteArray) (v : Int) (cd : ByteArray) : Array Value := #[.string nm, .int .i64 v, .string cd]
/-- An image that was laid in a block of its own. -/
theorem img_cells {w : World} {b : Nat} {nm cd : ByteArray} {v : Int} {t : TypeId} {fr : Nat × Nat} (h : w.heap[b]? = some (.cells (imgC nm v cd) t fr)) :
    w.cell? ⟨b, 0, none⟩ = some (.string nm) ∧ w.cell? ⟨b, 1, none⟩ = some (.int .i64 v) ∧ w.cell? ⟨b, 2, none⟩ = some (.string cd) := by
  refine ⟨?_, ?_, ?_⟩ <;> rw [cell_of_row w b _ _ t fr h] <;> rfl
/-- A version is from 1 to 1000. -/
def verB (v : Int) : Bool := decide (1 ≤ v ∧ v ≤ 1000)
theorem verB_is {v : Int} (h1 : 1 ≤ v) (h2 : v ≤ 1000) : verB v = true := decide_eq_true ⟨h1, h2⟩
theorem verB_not {v : Int} (h : v < 1 ∨ 1000 < v) : verB v = false := decide_eq_false (by omega)
theorem verB_yes {v : Int} (h : verB v = true) : 1 ≤ v ∧ v ≤ 1000 := of_decide_eq_true h
theorem verB_no {v : Int} (h : verB v = false) : v < 1 ∨ 1000 < v := by
  have := of_decide_eq_false h
  omega
end Go.Proofs.YtgnpffkfbacejaaGreatDoor.M
namespace Go.Proofs.YtgnpffkfbacejaaGreatDoor.Measure
open Go.ChangeShapes Go.WideShapes Go.ChangeAt Go.RowKit
open Go.Proofs.YtgnpffkfbacejaaGreatDoor.M
set_option linter.unusedVariables false

theorem ret_pair {a b : Int} {v : Value} (h : a = b) : Ending.returned (.tuple #[.int .i64 a, v]) = .returned (.tuple #[.int .i64 b, v]) := by rw [h]

theorem step_any (m t n : Int) (w : World) (hm0 : 0 ≤ m) (hm1 : m < 1000003) (ht0 : 0 ≤ t) (ht1 : t < 10000) (hn0 : 0 ≤ n) (hn1 : n < 1000003) :
    Calls Tryz.prog 108 #[.int .i64 m, .int .i64 t, .int .i64 n] w fun e w' => e = .returned (.int .i64 (stp t m n)) ∧ w' = w := by
  have hp0 : 0 ≤ t * m := Int.mul_nonneg ht0 hm0
  have hp1 : t * m ≤ 10000 * 1000003 := Int.mul_le_mul (by omega) (by omega) hm0 (by omega)
  go_enter Tryz.func108, Tryz.ntmps108
  go_wp2
  go_ret
  exact ⟨rfl, rfl⟩

theorem is_any (n : Int) (w : World) :
    Calls Tryz.prog 64 #[.int .i64 n] w fun e w' => e = .returned (.bool (isM n)) ∧ w' = w := by
  by_cases h0 : 0 ≤ n
  · by_cases h1 : n < 1000003
    · rw [isM_iff.2 ⟨h0, h1⟩]
      go_enter Tryz.func64, Tryz.ntmps64
      go_wp2
      go_ret
      exact ⟨rfl, rfl⟩
    · rw [isM_false.2 (by omega)]
      go_enter Tryz.func64, Tryz.ntmps64
      go_wp2
      go_ret
      exact ⟨rfl, rfl⟩
  · rw [isM_false.2 (by omega)]
    go_enter Tryz.func64, Tryz.ntmps64
    go_wp2
    go_ret
    exact ⟨rfl, rfl⟩

theorem two_ok (a b : Int) (w : World) (ha : isM a = true) (hb : isM b = true) :
    Calls Tryz.prog 90 #[.int .i64 a, .int .i64 b] w fun e w' => e = .returned (.tuple #[.int .i64 (stp 7919 a b), .nilIface]) ∧ w' = w := by
  have h1 := isM_iff.1 ha
  have h2 := isM_iff.1 hb
  obtain ⟨a0, a1⟩ := h1
  obtain ⟨b0, b1⟩ := h2
  go_enter Tryz.func90, Tryz.ntmps90
  go_wp2_with (first | (go_at_call 64; refine (is_any _ _).mono ?_; rintro e w' ⟨rfl, rfl⟩) | (go_at_call 108; refine (step_any _ _ _ _ (by omega) (by omega) (by omega) (by omega) (by omega) (by omega)).mono ?_; rintro e w' ⟨rfl, rfl⟩))
  go_ret2
  exact ⟨rfl, rfl⟩

theorem two_bad (a b : Int) (w : World) (h : isM a = false ∨ isM b = false) :
    Calls Tryz.prog 90 #[.int .i64 a, .int .i64 b] w fun e w' => e = .returned (.tuple #[.int .i64 0, .iface 63 (.int .i64 1)]) ∧ w' = w := by
  cases ha : isM a with
  | false =>
    go_enter Tryz.func90, Tryz.ntmps90
    go_wp2_with (go_at_call 64; refine (is_any _ _).mono ?_; rintro e w' ⟨rfl, rfl⟩)
    go_ret2
    exact ⟨rfl, rfl⟩
  | true =>
    have hb : isM b = false := by rcases h with h | h; · rw [h] at ha; cases ha
                                  · exact h
    go_enter Tryz.func90, Tryz.ntmps90
    go_wp2_with (go_at_call 64; refine (is_any _ _).mono ?_; rintro e w' ⟨rfl, rfl⟩)
    go_ret2
    exact ⟨rfl, rfl⟩

theorem row_full (a : Option Addr) (n cap : Nat) (w : World) (hn : 30 < n) (hm : n ≤ maxLen) :
    Calls Tryz.prog 86 #[.slice a n cap] w fun e w' => e = .returned (.tuple #[.int .i64 0, .iface 63 (.int .i64 4)]) ∧ w' = w := by
  unfold maxLen at hm
  go_enter Tryz.func86, Tryz.ntmps86
  go_wp2
  go_ret2
  exact ⟨rfl, rfl⟩

set_option maxHeartbeats 400000 in
theorem row_le (a : Option Addr) (xs : List Int) (n cap : Nat) (w : World) (hn : n = xs.length) (hl : n ≤ 30) (hr : Row w a xs) :
    Calls Tryz.prog 86 #[.slice a n cap] w fun e w' =>
      ((okAll xs = true ∧ e = .returned (.tuple #[.int .i64 (allFrom 0 xs), .nilIface])) ∨ (okAll xs = false ∧ e = .returned (.tuple #[.int .i64 0, .iface 63 (.int .i64 1)]))) ∧ w' = w := by
  have hlen : ∀ k, k < n → ∃ x, xs[k]? = some x := fun k hk => ⟨xs[k]'(by omega), List.getElem?_eq_getElem (by omega)⟩
  have HL : Hid (∀ k, k < n → ∃ x, xs[k]? = some x) := hlen
  have HN : Hid (n = xs.length) := hn
  have HR : Hid (Row w a xs) := hr
  clear hlen hn hr
  go_enter Tryz.func86, Tryz.ntmps86
  go_wp2
  go_loop [4, 15] (fun m i => ∃ k : Nat, k ≤ n ∧ i = .int .i64 k ∧ m = .int .i64 (allFrom 0 (xs.take k)) ∧ ∀ (j : Nat) (x : Int), j < k → xs[j]? = some x → isM x = true) (fun _ i => n - (intOf i).toNat)
  case atStart => exact ⟨0, by omega, rfl, rfl, fun j x h => by omega⟩
  case round =>
    obtain ⟨k, hk, rfl, rfl, hall⟩ := hrel
    have HA : Hid (∀ (j : Nat) (x : Int), j < k → xs[j]? = some x → isM x = true) := hall
    clear hall
    have hrg := allFrom_range 0 (xs.take k) (by omega) (by omega)
    obtain ⟨hr0, hr1⟩ := hrg
    by_cases hlt : k < n
    · obtain ⟨x, hx⟩ := HL.out k hlt
      have HX : Hid (xs[k]? = some x) := hx
      clear hx
      have hrow : ∃ b off, a = some ⟨b, off, none⟩ ∧ w.cell? ⟨b, off + k, none⟩ = some (.int .i64 x) := by
        rcases HR.out with h | ⟨b, off, h1, h2⟩
        · have := HX.out; rw [h] at this; simp at this
        · exact ⟨b, off, h1, h2 k x HX.out⟩
      obtain ⟨b, off, rfl, hc⟩ := hrow
      cases hmx : isM x with
      | true =>
        go_wp2_with (go_at_call 90; refine (two_ok _ _ _ (isM_iff.2 ⟨by assumption, by assumption⟩) (by assumption)).mono ?_; rintro e w' ⟨rfl, rfl⟩)
        go_round
        case rel => exact ⟨k + 1, by omega, by go_num, by rw [allFrom_take HX.out], fun j y hj hy => by
          by_cases e : j = k
          · subst e; rw [HX.out] at hy; cases hy; exact hmx
          · exact HA.out j y (by omega) hy⟩
        case measure => simp [intOf]; omega
      | false =>
        go_wp2_with (go_at_call 90; refine (two_bad _ _ _ (Or.inr (by assumption))).mono ?_; rintro e w' ⟨rfl, rfl⟩)
        go_ret2
        exact ⟨Or.inr ⟨okAll_not HX.out hmx, rfl⟩, rfl⟩
    · go_wp2
      go_ret2
      have hkn : k = n := by omega
      have htk : xs.take k = xs := List.take_of_length_le (by have := HN.out; omega)
      refine ⟨Or.inl ⟨okAll_of fun j x hx => HA.out j x ?_ hx, ?_⟩, rfl⟩
      · have := (List.getElem?_eq_some_iff.1 hx).1
        have := HN.out
        omega
      · exact ret_pair (by rw [htk])

theorem row_ok (a : Option Addr) (xs : List Int) (n cap : Nat) (w : World) (hn : n = xs.length) (hl : n ≤ 30) (hr : Row w a xs) (ho : okAll xs = true) :
    Calls Tryz.prog 86 #[.slice a n cap] w fun e w' => e = .returned (.tuple #[.int .i64 (allFrom 0 xs), .nilIface]) ∧ w' = w := by
  refine (row_le a xs n cap w hn hl hr).mono ?_
  rintro e w' ⟨⟨_, he⟩ | ⟨hb, _⟩, hw⟩
  · exact ⟨he, hw⟩
  · rw [ho] at hb; cases hb
theorem row_bad (a : Option Addr) (xs : List Int) (n cap : Nat) (w : World) (hn : n = xs.length) (hl : n ≤ 30) (hr : Row w a xs) (ho : okAll xs = false) :
    Calls Tryz.prog 86 #[.slice a n cap] w fun e w' => e = .returned (.tuple #[.int .i64 0, .iface 63 (.int .i64 1)]) ∧ w' = w := by
  refine (row_le a xs n cap w hn hl hr).mono ?_
  rintro e w' ⟨⟨hb, _⟩ | ⟨_, he⟩, hw⟩
  · rw [ho] at hb; cases hb
  · exact ⟨he, hw⟩

theorem all_full (a : Option Addr) (n cap : Nat) (w : World) (hn : 30 < n) (hm : n ≤ maxLen) :
    Calls Tryz.prog 62 #[.slice a n cap] w fun e w' => e = .returned (.tuple #[.int .i64 0, .iface 63 (.int .i64 4)]) ∧ w' = w := by
  go_enter Tryz.func62, Tryz.ntmps62
  go_wp2_with (go_at_call 86; refine (row_full _ _ _ _ hn hm).mono ?_; rintro e w' ⟨rfl, rfl⟩)
  go_ret2
  exact ⟨rfl, rfl⟩
theorem all_ok (a : Option Addr) (xs : List Int) (n cap : Nat) (w : World) (hn : n = xs.length) (hl : n ≤ 30) (hr : Row w a xs) (ho : okAll xs = true) :
    Calls Tryz.prog 62 #[.slice a n cap] w fun e w' => e = .returned (.tuple #[.int .i64 (allFrom 0 xs), .nilIface]) ∧ w' = w := by
  have c := row_ok a xs n cap w hn hl hr ho
  have C : Hid (Calls Tryz.prog 86 #[.slice a n cap] w fun e w' => e = .returned (.tuple #[.int .i64 (allFrom 0 xs), .nilIface]) ∧ w' = w) := c
  clear c hn ho
  go_enter Tryz.func62, Tryz.ntmps62
  go_wp2_with (go_at_call 86; refine C.out.mono ?_; rintro e w' ⟨rfl, rfl⟩)
  go_ret2
  exact ⟨rfl, rfl⟩
theorem all_bad (a : Option Addr) (xs : List Int) (n cap : Nat) (w : World) (hn : n = xs.length) (hl : n ≤ 30) (hr : Row w a xs) (ho : okAll xs = false) :
    Calls Tryz.prog 62 #[.slice a n cap] w fun e w' => e = .returned (.tuple #[.int .i64 0, .iface 63 (.int .i64 1)]) ∧ w' = w := by
  have c := row_bad a xs n cap w hn hl hr ho
  have C : Hid (Calls Tryz.prog 86 #[.slice a n cap] w fun e w' => e = .returned (.tuple #[.int .i64 0, .iface 63 (.int .i64 1)]) ∧ w' = w) := c
  clear c hn ho
  go_enter Tryz.func62, Tryz.ntmps62
  go_wp2_with (go_at_call 86; refine C.out.mono ?_; rintro e w' ⟨rfl, rfl⟩)
  go_ret2
  exact ⟨rfl, rfl⟩

theorem of_full (s : ByteArray) (w : World) (hn : 24 < s.size) (hm : s.size ≤ 1152921504606846976) :
    Calls Tryz.prog 82 #[.string s] w fun e w' => e = .returned (.tuple #[.int .i64 0, .iface 63 (.int .i64 4)]) ∧ w' = w := by
  go_enter Tryz.func82, Tryz.ntmps82
  go_wp2
  go_ret2
  exact ⟨rfl, rfl⟩

set_option maxHeartbeats 400000 in
theorem of_ok (s : ByteArray) (w : World) (hl : s.size ≤ 24) :
    Calls Tryz.prog 82 #[.string s] w fun e w' => e = .returned (.tuple #[.int .i64 (ofFrom 1 s.data.toList), .nilIface]) ∧ w' = w := by
  go_enter Tryz.func82, Tryz.ntmps82
  go_wp2
  go_loop [4, 12] (fun m i => ∃ k : Nat, k ≤ s.size ∧ i = .int .i64 k ∧ m = .int .i64 (ofFrom 1 (s.data.toList.take k))) (fun _ i => s.size - (intOf i).toNat)
  case atStart => exact ⟨0, by omega, rfl, rfl⟩
  case round =>
    obtain ⟨k, hk, rfl, rfl⟩ := hrel
    have hrg := ofFrom_range 1 (s.data.toList.take k) (by omega) (by omega)
    obtain ⟨hr0, hr1⟩ := hrg
    by_cases hlt : k < s.size
    · have hb := (s[k]).toNat_lt
      have HX : Hid (s.data.toList[k]? = some s[k]) := by show s.data.toList[k]? = some s[k]; rw [List.getElem?_eq_getElem (by simpa using hlt)]; rfl
      go_wp2_with (go_at_call 108; refine (step_any _ _ _ _ (by omega) (by omega) (by omega) (by omega) (by omega) (by omega)).mono ?_; rintro e w' ⟨rfl, rfl⟩)
      go_round
      case rel => exact ⟨k + 1, by omega, by go_num, by rw [ofFrom_take HX.out]⟩
      case measure => simp [intOf]; omega
    · go_wp2
      go_ret2
      have htk : s.data.toList.take k = s.data.toList := List.take_of_length_le (by simp; omega)
      exact ⟨ret_pair (by rw [htk]), rfl⟩

theorem of_any (s : ByteArray) (w : World) (hm : s.size ≤ 1152921504606846976) :
    Calls Tryz.prog 82 #[.string s] w fun e w' => e = .returned (.tuple #[.int .i64 (ofV s), errV 63 (ofC s)]) ∧ w' = w := by
  unfold ofV ofC
  by_cases h : 24 < s.size
  · rw [if_pos h, if_pos h]; exact of_full s w h hm
  · rw [if_neg h, if_neg h]; exact of_ok s w (by omega)
theorem two_any (a b : Int) (w : World) :
    Calls Tryz.prog 90 #[.int .i64 a, .int .i64 b] w fun e w' => e = .returned (.tuple #[.int .i64 (twoV a b), errV 63 (twoC a b)]) ∧ w' = w := by
  by_cases h : isM a = true ∧ isM b = true
  · rw [twoV_ok h.1 h.2, twoC_ok h.1 h.2]; exact two_ok a b w h.1 h.2
  · rw [twoV_bad h, twoC_bad h]
    refine two_bad a b w ?_
    cases ha : isM a with
    | false => exact Or.inl rfl
    | true => cases hb : isM b with
      | false => exact Or.inr rfl
      | true => exact absurd ⟨ha, hb⟩ h
theorem all_any (a : Option Addr) (xs : List Int) (n cap : Nat) (w : World) (hn : n = xs.length) (hm : n ≤ maxLen) (hr : Row w a xs) :
    Calls Tryz.prog 62 #[.slice a n cap] w fun e w' => e = .returned (.tuple #[.int .i64 (allV xs), errV 63 (allC xs)]) ∧ w' = w := by
  unfold allV allC
  by_cases h : 30 < xs.length
  · rw [if_pos h, if_pos h]; exact all_full a n cap w (by omega) hm
  · rw [if_neg h, if_neg h]
    cases ho : okAll xs with
    | true => exact all_ok a xs n cap w hn (by omega) hr ho
    | false => exact all_bad a xs n cap w hn (by omega) hr ho
end Go.Proofs.YtgnpffkfbacejaaGreatDoor.Measure
namespace Go.Proofs.YtgnpffkfbacejaaGreatDoor.M
open Go.RowKit Go.ChangeShapes Go.WideShapes Go.ChangeAt

/-- But for the blocks of S, what was there is as it was. -/
def Only (S : Nat → Prop) (w w' : World) : Prop :=
  w'.os = w.os ∧ w'.tape = w.tape ∧ w'.output = w.output ∧ w.heap.size ≤ w'.heap.size ∧ ∀ k, k < w.heap.size → ¬ S k → w'.heap[k]? = w.heap[k]?
section
variable {S T : Nat → Prop} {w w1 w2 : World}
theorem Only.refl (S : Nat → Prop) (w : World) : Only S w w := ⟨rfl, rfl, rfl, Nat.le_refl _, fun _ _ _ => rfl⟩
theorem Only.trans (h : Only S w w1) (h2 : Only T w1 w2) (hT : ∀ k, k < w.heap.size → T k → S k) : Only S w w2 :=
  ⟨h2.1.trans h.1, h2.2.1.trans h.2.1, h2.2.2.1.trans h.2.2.1, Nat.le_trans h.2.2.2.1 h2.2.2.2.1, fun k hk hn => (h2.2.2.2.2 k (Nat.lt_of_lt_of_le hk h.2.2.2.1) (fun ht => hn (hT k hk ht))).trans (h.2.2.2.2 k hk hn)⟩
theorem Only.of_below (h : Below w.heap.size w w1) : Only S w w1 := ⟨h.os, h.tape, h.output, h.size, fun k hk _ => h.block k hk⟩
theorem Only.below {B : Nat} (h : Only S w w1) (hB : B ≤ w.heap.size) (hS : ∀ k, S k → B ≤ k) : Below B w w1 :=
  ⟨h.1, h.2.1, h.2.2.1, h.2.2.2.1, fun k hk => h.2.2.2.2 k (Nat.lt_of_lt_of_le hk hB) (fun hs => absurd (hS k hs) (Nat.not_le.2 hk))⟩
theorem Only.size (h : Only S w w1) : w.heap.size ≤ w1.heap.size := h.2.2.2.1
theorem Only.heap (h : Only S w w1) {k : Nat} {o : Obj} (hk : w.heap[k]? = some o) (hn : ¬ S k) : w1.heap[k]? = some o := (h.2.2.2.2 k (blk_lt hk) hn).trans hk
theorem Only.alloc (h : Only S w w1) (o : Obj) : Only S w (w1.alloc o) := h.trans (Only.of_below (S := fun _ => False) (below_new w1 o)) (fun _ _ hf => hf.elim)
theorem Only.after (h : Only S w w1) (hb : Below w1.heap.size w1 w2) : Only S w w2 := h.trans (Only.of_below (S := fun _ => False) hb) (fun _ _ hf => hf.elim)
theorem Only.setCell (h : Only S w w1) {p : Addr} (hp : S p.block) (u : Value) : Only S w (w1.setCell p u) :=
  h.trans (T := fun k => k = p.block) ⟨rfl, rfl, rfl, by simp [World.setCell], fun k _ hn => Below.heap_setCell _ _ _ _ hn⟩ (fun k _ e => by rw [e]; exact hp)
theorem Only.setRow (h : Only S w w1) {b : Nat} (hp : S b) (cs : Array Value) : Only S w (w1.setRow b cs) :=
  h.trans (T := fun k => k = b) ⟨rfl, rfl, rfl, by simp [World.setRow], fun k _ hn => setRow_other _ _ _ _ hn⟩ (fun k _ e => by rw [e]; exact hp)
theorem Only.drew (h : Only S w w1) : Only S w w1.drew := h
theorem Only.grown (h : Only S w w1) {row : Option Nat} (hg : w1.grownBy w2 row) (hr : ∀ k, row = some k → S k ∨ w.heap.size ≤ k) : Only S w w2 :=
  h.trans (T := fun k => row = some k) ⟨hg.os, hg.tape, hg.output, hg.size, fun k hk hn => hg.block k hk (fun e => hn e.symm)⟩ (fun k hk e => by
    rcases hr k e with h | h
    · exact h
    · omega)
end
theorem Own.only {S : Nat → Prop} {w w1 : World} {base : Nat} {e : TypeId} {v : Value} {xs : List Int} (h : Own w base e v xs) (ho : Only S w w1) (hn : ∀ k, v.ownBlock = some k → ¬ S k) : Own w1 base e v xs := by
  refine ⟨h.1, ?_⟩
  rcases h.2 with h2 | ⟨g, cap, cur, h1, h2, h3, h4⟩
  · exact Or.inl h2
  · exact Or.inr ⟨g, cap, cur, h1, h2, ho.heap h3 (hn g (by rw [h1]; rfl)), h4⟩
theorem Own.lt {w : World} {base : Nat} {e : TypeId} {v : Value} {xs : List Int} (h : Own w base e v xs) : ∀ k, v.ownBlock = some k → k < w.heap.size := by
  intro k hk
  rcases h.2 with ⟨h2, _⟩ | ⟨g, cap, cur, h1, _, h3, _⟩
  · rw [h2] at hk; cases hk
  · rw [h1] at hk
    cases hk
    exact blk_lt h3

/-- 'x = append(x, ys...)' where x is a row of ints of the call's own and ys can be read; where the row lies then. -/
theorem wpList_appAt {P : Program} {w : World} {ops : Array Oper} {rest : List Oper} {o : Oper} {a : Act} {Q : Exit → Act → World → Prop} (hgd : o.guard = none) (s x : Operand) (t : TypeId)
    (ho : o.op = .call { callee := .builtin .append, args := #[s, x], argTypes := #[t, t] })
    (base : Nat) (e : TypeId) (hinfo : (P.info? e).map (fun i => (i.zero, i.size, i.bytes)) = some (some (.int .i64 0), 1, 8)) (ht : P.underlying t = some (.slice e))
    (v : Value) (xs : List Int) (hs : a.eval s = v) (hown : Own w base e v xs)
    (ad : Option Addr) (m c : Nat) (ys : List Int) (hx : a.eval x = .slice ad m c) (hm : m = ys.length) (hc : ad = none → c = 0) (hrow : Row w ad ys)
    (hb : xs.length + ys.length ≤ 1000000) (hbase : base ≤ w.heap.size)
    (h : ∀ v' w', Own w' base e v' (xs ++ ys) → w.grownBy w' v.ownBlock → (v'.ownBlock = v.ownBlock ∨ v'.ownBlock = some w.heap.size) → wpList P ops Q rest (a.put o.dst v') w') : wpList P ops Q (o :: rest) a w := by
  obtain ⟨i, hi, hz0, hz1, hz2⟩ := info_parts hinfo
  subst hm
  cases ad with
  | none =>
    have hy : ys = [] := by
      rcases hrow with h | ⟨b, off, h, _⟩
      · exact h
      · cases h
    subst hy
    rw [hc rfl] at hx
    refine wpList_append_own_none hgd s x t ho base e i 1 ht hi v xs.length _ hs hown hx (h v w (by simpa using hown) ⟨rfl, rfl, rfl, Nat.le_refl _, fun _ _ _ => rfl⟩ (Or.inl rfl))
  | some ad =>
    refine wpList_append_own_at w hgd s x t ho base e i (.int .i64 0) 1 8 ht hi hz0 hz1 hz2 rfl (by decide) v xs.length _ hs hown ad ys.length c (ys.map (Value.int .i64)) hx (by simp) ?_ ?_ (by unfold maxLen; omega) (by omega) hbase ?_
    · intro j u hj
      rw [List.getElem?_map] at hj
      obtain ⟨y, hy, rfl⟩ := Option.map_eq_some_iff.1 hj
      rcases hrow with h | ⟨b, off, h, hcell⟩
      · subst h; simp at hy
      · cases h
        rw [add_none]
        exact hcell j y hy
    · intro u hu
      obtain ⟨_, _, rfl⟩ := List.mem_map.1 hu
      rfl
    · intro v' w' h1 h2 _ h3
      refine h v' w' ?_ h2 h3
      have e1 : (xs ++ ys).length = xs.length + ys.length := by simp
      unfold Own
      rw [e1, List.map_append]
      exact h1
end Go.Proofs.YtgnpffkfbacejaaGreatDoor.M
namespace Go.Proofs.YtgnpffkfbacejaaGreatDoor.M
set_option linter.unusedVariables false

/-- A name is one to eight letters. -/
def nameB (s : ByteArray) : Bool := letS s && decide (1 ≤ s.size ∧ s.size ≤ 8)
def updF (f : ByteArray → Int) (nm : ByteArray) (v : Int) : ByteArray → Int := fun s => if s = nm then v else f s
/-- One raised: what is wrong, whether it is another one, and what is then. -/
def raiE (f : ByteArray → Int) (k : Nat) (nm : ByteArray) (v : Int) : Int :=
  if nameB nm = true then (if 0 ≤ v ∧ v ≤ 1000 then (if v ≤ f nm then 0 else if f nm = 0 ∧ 12 ≤ k then 4 else 0) else 1) else 3
def raiB (f : ByteArray → Int) (k : Nat) (nm : ByteArray) (v : Int) : Bool := decide (nameB nm = true ∧ (0 ≤ v ∧ v ≤ 1000) ∧ f nm < v ∧ ¬ (f nm = 0 ∧ 12 ≤ k))
def raiF (f : ByteArray → Int) (k : Nat) (nm : ByteArray) (v : Int) : ByteArray → Int := if raiB f k nm v = true then updF f nm v else f
def raiK (f : ByteArray → Int) (k : Nat) (nm : ByteArray) (v : Int) : Nat := if raiB f k nm v = true then (if f nm = 0 then k + 1 else k) else k
def leaE (nm : ByteArray) : Int := if nameB nm = true then 0 else 3
def leaV (f : ByteArray → Int) (nm : ByteArray) : Int := if nameB nm = true then f nm else 0
def mayE (f : ByteArray → Int) (nm : ByteArray) (v : Int) : Int := if nameB nm = true then (if 1 ≤ v ∧ v ≤ 1000 then (if v < f nm then 9 else 0) else 1) else 3
section
variable {f : ByteArray → Int} {k : Nat} {nm : ByteArray} {v : Int}
theorem raiB_iff : raiB f k nm v = true ↔ nameB nm = true ∧ (0 ≤ v ∧ v ≤ 1000) ∧ f nm < v ∧ ¬ (f nm = 0 ∧ 12 ≤ k) := by unfold raiB; rw [decide_eq_true_iff]
theorem raiE_rise (h : raiB f k nm v = true) : raiE f k nm v = 0 := by
  obtain ⟨h1, h2, h3, h4⟩ := raiB_iff.1 h
  unfold raiE
  rw [if_pos h1, if_pos h2, if_neg (by omega), if_neg h4]
theorem raiF_no (h : ¬ raiB f k nm v = true) : raiF f k nm v = f := if_neg h
theorem raiK_no (h : ¬ raiB f k nm v = true) : raiK f k nm v = k := if_neg h
theorem raiF_yes (h : raiB f k nm v = true) : raiF f k nm v = updF f nm v := if_pos h
theorem raiE_name (h : nameB nm = false) : raiE f k nm v = 3 ∧ raiB f k nm v = false := by
  refine ⟨by unfold raiE; rw [h]; rfl, ?_⟩
  cases hb : raiB f k nm v with
  | false => rfl
  | true => rw [(raiB_iff.1 hb).1] at h; cases h
theorem leaE_no (h : nameB nm = false) : leaE nm = 3 ∧ leaV f nm = 0 := by unfold leaE leaV; rw [h]; exact ⟨rfl, rfl⟩
theorem leaE_ok (h : nameB nm = true) : leaE nm = 0 ∧ leaV f nm = f nm := by unfold leaE leaV; rw [if_pos h, if_pos h]; exact ⟨rfl, rfl⟩
theorem updF_same : updF f nm v nm = v := if_pos rfl
/-- The least version never goes back; it is another one just where it is more. -/
theorem rai_least (h : nameB nm = true) : f nm ≤ raiF f k nm v nm ∧ (raiB f k nm v = decide (f nm < raiF f k nm v nm)) ∧ (¬ raiE f k nm v = 0 → raiF f k nm v nm = f nm) := by
  cases hb : raiB f k nm v with
  | true =>
    have h3 := (raiB_iff.1 hb).2.2.1
    rw [raiF_yes hb, updF_same]
    exact ⟨by omega, (decide_eq_true h3).symm, fun hn => absurd (raiE_rise hb) hn⟩
  | false =>
    rw [raiF_no (by rw [hb]; exact Bool.false_ne_true)]
    exact ⟨Int.le_refl _, (decide_eq_false (by omega)).symm, fun _ => rfl⟩
/-- Of one name alone there is always room: it is the greatest that was. -/
theorem rai_one (h : nameB nm = true) (hk : k ≤ 1) (hv : 0 ≤ f nm) : raiF f k nm v nm = if 0 ≤ v ∧ v ≤ 1000 ∧ f nm < v then v else f nm := by
  by_cases hc : 0 ≤ v ∧ v ≤ 1000 ∧ f nm < v
  · rw [if_pos hc, raiF_yes (raiB_iff.2 ⟨h, ⟨hc.1, hc.2.1⟩, hc.2.2, by omega⟩), updF_same]
  · rw [if_neg hc, raiF_no (fun hb => hc (by obtain ⟨_, h2, h3, _⟩ := raiB_iff.1 hb; exact ⟨h2.1, h2.2, h3⟩))]
end

/-- The names that a law lays: an n and a letter. -/
def nmI (i : Nat) : ByteArray := { data := #[110, UInt8.ofNat (97 + i)] }
theorem nmI_name_fin : ∀ i : Fin 20, nameB (nmI i.val) = true := by decide
theorem nmI_inj_fin : ∀ i j : Fin 20, nmI i.val = nmI j.val → i.val = j.val := by decide
theorem nmI_name {i : Nat} (h : i < 20) : nameB (nmI i) = true := nmI_name_fin ⟨i, h⟩
theorem nmI_inj {i j : Nat} (hi : i < 20) (hj : j < 20) (h : nmI i = nmI j) : i = j := nmI_inj_fin ⟨i, hi⟩ ⟨j, hj⟩ h
def inI (n : Nat) (s : ByteArray) : Bool := (List.range n).any fun j => decide (s = nmI j)
theorem inI_iff {n : Nat} {s : ByteArray} : inI n s = true ↔ ∃ j, j < n ∧ s = nmI j := by
  unfold inI
  rw [List.any_eq_true]
  exact ⟨fun ⟨j, hj, e⟩ => ⟨j, List.mem_range.1 hj, of_decide_eq_true e⟩, fun ⟨j, hj, e⟩ => ⟨j, List.mem_range.2 hj, decide_eq_true e⟩⟩
def fI (i : Nat) : ByteArray → Int := fun s => if inI (min i 12) s = true then 1 else 0
theorem fI_zero : fI 0 = fun _ => 0 := by
  funext s
  unfold fI
  rw [if_neg]
  intro h
  obtain ⟨j, hj, _⟩ := inI_iff.1 h
  omega
theorem fI_own {i : Nat} (h : i < 20) : fI i (nmI i) = 0 := by
  unfold fI
  rw [if_neg]
  intro hc
  obtain ⟨j, hj, e⟩ := inI_iff.1 hc
  have := nmI_inj (i := i) (j := j) h (by omega) e
  omega
theorem fI_next {i : Nat} (h : i < 12) : updF (fI i) (nmI i) 1 = fI (i + 1) := by
  funext s
  unfold updF fI
  rw [show min (i + 1) 12 = i + 1 by omega, show min i 12 = i by omega]
  by_cases e : s = nmI i
  · rw [if_pos e, if_pos (inI_iff.2 ⟨i, by omega, e⟩)]
  · rw [if_neg e]
    by_cases hm : inI i s = true
    · obtain ⟨j, hj, e2⟩ := inI_iff.1 hm
      rw [if_pos hm, if_pos (inI_iff.2 ⟨j, by omega, e2⟩)]
    · rw [if_neg hm, if_neg]
      intro hc
      obtain ⟨j, hj, e2⟩ := inI_iff.1 hc
      by_cases hji : j = i
      · rw [hji] at e2; exact e e2
      · exact hm (inI_iff.2 ⟨j, by omega, e2⟩)
theorem fI_full {i : Nat} (h : 12 ≤ i) : fI (i + 1) = fI i := by unfold fI; rw [show min (i + 1) 12 = min i 12 by omega]
theorem fI_zz (i : Nat) : fI i { data := #[122, 122] } = 0 := by
  unfold fI
  rw [if_neg]
  intro hc
  obtain ⟨j, hj, e⟩ := inI_iff.1 hc
  have h1 := congrArg (fun s : ByteArray => s.data.toList[0]?) e
  simp [nmI] at h1
end Go.Proofs.YtgnpffkfbacejaaGreatDoor.M
namespace Go.Proofs.YtgnpffkfbacejaaGreatDoor.M
set_option linter.unusedVariables false

/-- A record: a name, its version, and how many bytes it has. -/
abbrev Rcd := ByteArray × Int × Nat
/-- A log: its whole records, the bytes of one that was not written whole, how many bytes are safe, in how many steps it stops (below 0: never), and whether it has stopped. -/
structure LS where
  rs : List Rcd
  half : Nat
  safe : Nat
  fail : Int
  stop : Bool
/-- The counts that records make: the least versions, and of how many names. -/
def cntL (rs : List Rcd) : (ByteArray → Int) × Nat := rs.foldl (fun c r => (raiF c.1 c.2 r.1 r.2.1, raiK c.1 c.2 r.1 r.2.1)) (fun _ => 0, 0)
theorem cntL_nil : cntL [] = (fun _ => 0, 0) := rfl
theorem cntL_snoc (rs : List Rcd) (r : Rcd) : cntL (rs ++ [r]) = (raiF (cntL rs).1 (cntL rs).2 r.1 r.2.1, raiK (cntL rs).1 (cntL rs).2 r.1 r.2.1) := by
  unfold cntL
  rw [List.foldl_append]
  rfl
def LS.f (j : LS) : ByteArray → Int := (cntL j.rs).1
def LS.k (j : LS) : Nat := (cntL j.rs).2
/-- How many bytes records have. -/
def lenL (rs : List Rcd) : Nat := (rs.map fun r => r.2.2).sum
theorem lenL_nil : lenL [] = 0 := rfl
theorem lenL_snoc (rs : List Rcd) (r : Rcd) : lenL (rs ++ [r]) = lenL rs + r.2.2 := by unfold lenL; rw [List.map_append, List.sum_append]; rfl
theorem lenL_take_le (rs : List Rcd) (n : Nat) : lenL (rs.take n) ≤ lenL rs := by
  unfold lenL
  induction rs generalizing n with
  | nil => simp
  | cons r t ih =>
    cases n with
    | zero => simp
    | succ n => simp only [List.take_succ_cons, List.map_cons, List.sum_cons]; have := ih n; omega
theorem lenL_take_mono (rs : List Rcd) {m n : Nat} (h : m ≤ n) : lenL (rs.take m) ≤ lenL (rs.take n) := by
  have e : rs.take m = (rs.take n).take m := by rw [List.take_take, Nat.min_eq_left h]
  rw [e]
  exact lenL_take_le _ _
def LS.bytes (j : LS) : Nat := lenL j.rs + j.half
/-- A new one. -/
def newL : LS := ⟨[], 0, 0, -1, false⟩
/-- Does it stop at this step? And if not, how many are left. -/
def lessF (n : Int) : Int := if 0 < n then n - 1 else n
/-- One raised: what is wrong, whether it is another one, and what is then; n: how many bytes its record has. -/
def lraG (j : LS) (nm : ByteArray) (v : Int) : Bool := decide (j.stop = false) && raiB j.f j.k nm v && decide (j.rs.length < 30)
def lraE (j : LS) (nm : ByteArray) (v : Int) : Int :=
  if j.stop = true then 6 else if raiB j.f j.k nm v = true then (if j.rs.length < 30 then (if j.fail = 0 then 6 else 0) else 4) else raiE j.f j.k nm v
def lraB (j : LS) (nm : ByteArray) (v : Int) : Bool := lraG j nm v && decide (¬ j.fail = 0)
def lraT (j : LS) (nm : ByteArray) (v : Int) (n : Nat) : LS :=
  if lraG j nm v = true then (if j.fail = 0 then { j with half := n / 2, stop := true } else { j with rs := j.rs ++ [(nm, v, n)], fail := lessF j.fail }) else j
/-- Synced. -/
def synE (j : LS) : Int := if j.stop = true then 6 else if j.fail = 0 then 6 else 0
def synT (j : LS) : LS := if j.stop = true then j else if j.fail = 0 then { j with stop := true } else { j with safe := j.bytes, fail := lessF j.fail }
/-- Told when to stop. -/
def faiT (j : LS) (n : Int) : LS := { j with fail := if n < 0 then -1 else n }
/-- How many bytes are left behind a crash, and how many records are whole among so many. -/
def highL (j : LS) (keep : Int) : Nat := if keep ≤ 0 then j.safe else if keep < (j.bytes : Int) - j.safe then j.safe + keep.toNat else j.bytes
def leftL : List Rcd → Nat → Nat
  | [], _ => 0
  | r :: rs, n => if r.2.2 ≤ n then leftL rs (n - r.2.2) + 1 else 0
def craT (j : LS) (keep : Int) : LS :=
  let rs := j.rs.take (leftL j.rs (highL j keep))
  ⟨rs, 0, lenL rs, -1, false⟩
theorem leftL_le : ∀ (rs : List Rcd) (n : Nat), leftL rs n ≤ rs.length
  | [], _ => Nat.le_refl _
  | r :: rs, n => by
    unfold leftL
    split
    · have := leftL_le rs (n - r.2.2); simp; omega
    · simp
theorem leftL_len : ∀ (rs : List Rcd) (n : Nat), lenL (rs.take (leftL rs n)) ≤ n
  | [], n => by simp [leftL, lenL]
  | r :: rs, n => by
    unfold leftL
    split
    · have := leftL_len rs (n - r.2.2)
      rw [List.take_succ_cons]
      unfold lenL at this ⊢
      rw [List.map_cons, List.sum_cons]
      omega
    · simp [lenL]
/-- Just the records whose end is not above are left. -/
theorem leftL_iff : ∀ (rs : List Rcd) (n i : Nat), i ≤ rs.length → (lenL (rs.take i) ≤ n ↔ i ≤ leftL rs n)
  | [], n, i, hi => by
    have : i = 0 := by simpa using hi
    subst this
    simp [leftL, lenL]
  | r :: rs, n, 0, hi => by simp [lenL]
  | r :: rs, n, i + 1, hi => by
    have hi' : i ≤ rs.length := by simpa using hi
    rw [List.take_succ_cons]
    have e : lenL (r :: rs.take i) = r.2.2 + lenL (rs.take i) := by unfold lenL; rw [List.map_cons, List.sum_cons]
    rw [e]
    unfold leftL
    split
    · rename_i h
      have := leftL_iff rs (n - r.2.2) i hi'
      omega
    · rename_i h
      omega
/-- Each record has two bytes or more, and not many; there are thirty at most; a half one is there only where it has stopped. -/
structure OkL (j : LS) : Prop where
  many : j.rs.length ≤ 30
  two : ∀ r ∈ j.rs, 2 ≤ r.2.2 ∧ r.2.2 ≤ 1000
  half : j.half ≤ 500
  stop : j.stop = false → j.half = 0
  safe : j.safe ≤ lenL j.rs
  fail : -1 ≤ j.fail
  rise : ∀ (i : Nat) (r : Rcd), j.rs[i]? = some r → raiB (cntL (j.rs.take i)).1 (cntL (j.rs.take i)).2 r.1 r.2.1 = true
  cut : ∃ i, i ≤ j.rs.length ∧ j.safe = lenL (j.rs.take i)
theorem lenL_le : ∀ {rs : List Rcd}, (∀ r ∈ rs, 2 ≤ r.2.2 ∧ r.2.2 ≤ 1000) → lenL rs ≤ 1000 * rs.length
  | [], _ => by simp [lenL]
  | r :: rs, h => by
    have h1 := lenL_le (rs := rs) (fun x hx => h x (List.mem_cons_of_mem _ hx))
    have h2 := (h r (List.mem_cons_self ..)).2
    unfold lenL at h1 ⊢
    rw [List.map_cons, List.sum_cons, List.length_cons]
    omega
section
variable {j : LS}
theorem OkL.bytes (h : OkL j) : j.bytes ≤ 31000 ∧ j.safe ≤ j.bytes := by
  have h1 := lenL_le h.two
  have h2 := h.many
  have h3 := h.half
  have h4 := h.safe
  unfold LS.bytes
  omega
theorem okL_new : OkL newL :=
  ⟨by simp [newL], fun r h => (by cases h), by simp [newL], fun _ => rfl, by simp [newL], by simp [newL], fun i r h => by simp [newL] at h, 0, by simp [newL], rfl⟩
theorem lraG_iff {nm : ByteArray} {v : Int} : lraG j nm v = true ↔ j.stop = false ∧ raiB j.f j.k nm v = true ∧ j.rs.length < 30 := by
  unfold lraG
  rw [Bool.and_eq_true, Bool.and_eq_true, decide_eq_true_iff, decide_eq_true_iff, and_assoc]
theorem okL_raise {nm : ByteArray} {v : Int} {n : Nat} (h : OkL j) (h2 : 2 ≤ n) (h3 : n ≤ 1000) : OkL (lraT j nm v n) := by
  unfold lraT
  by_cases hg : lraG j nm v = true
  · rw [if_pos hg]
    obtain ⟨g1, g2, g3⟩ := lraG_iff.1 hg
    by_cases hf : j.fail = 0
    · rw [if_pos hf]
      exact ⟨h.many, h.two, by show n / 2 ≤ 500; omega, fun hs => (by cases hs), h.safe, h.fail, h.rise, h.cut⟩
    · rw [if_neg hf]
      refine ⟨by simp; omega, fun r hr => ?_, h.half, h.stop, ?_, ?_, fun i r hr => ?_, ?_⟩
      · rcases List.mem_append.1 hr with hr | hr
        · exact h.two r hr
        · rw [List.mem_singleton.1 hr]; exact ⟨h2, h3⟩
      · show j.safe ≤ lenL (j.rs ++ [(nm, v, n)])
        rw [lenL_snoc]
        have := h.safe
        omega
      · show -1 ≤ lessF j.fail
        unfold lessF
        have := h.fail
        split <;> omega
      · have hr' : (j.rs ++ [(nm, v, n)])[i]? = some r := hr
        by_cases hi : i < j.rs.length
        · rw [List.getElem?_append_left hi] at hr'
          show raiB (cntL ((j.rs ++ [(nm, v, n)]).take i)).1 (cntL ((j.rs ++ [(nm, v, n)]).take i)).2 r.1 r.2.1 = true
          rw [List.take_append_of_le_length (by omega)]
          exact h.rise i r hr'
        · rw [List.getElem?_append_right (by omega)] at hr'
          have h0 : i - j.rs.length = 0 := by
            by_cases h0 : i - j.rs.length = 0
            · exact h0
            · rw [List.getElem?_eq_none (by simp; omega)] at hr'; cases hr'
          rw [h0] at hr'
          cases hr'
          show raiB (cntL ((j.rs ++ [(nm, v, n)]).take i)).1 (cntL ((j.rs ++ [(nm, v, n)]).take i)).2 nm v = true
          rw [show i = j.rs.length by omega, List.take_left]
          exact g2
      · obtain ⟨i, hi, e⟩ := h.cut
        refine ⟨i, by simp; omega, ?_⟩
        show j.safe = lenL ((j.rs ++ [(nm, v, n)]).take i)
        rw [List.take_append_of_le_length hi]
        exact e
  · rw [if_neg hg]; exact h
theorem okL_sync (h : OkL j) : OkL (synT j) := by
  unfold synT
  by_cases hs : j.stop = true
  · rw [if_pos hs]; exact h
  · rw [if_neg hs]
    by_cases hf : j.fail = 0
    · rw [if_pos hf]
      exact ⟨h.many, h.two, h.half, fun hs => (by cases hs), h.safe, h.fail, h.rise, h.cut⟩
    · rw [if_neg hf]
      have hz := h.stop (by simpa using hs)
      have hb : j.bytes = lenL j.rs := by unfold LS.bytes; omega
      refine ⟨h.many, h.two, h.half, h.stop, ?_, ?_, h.rise, j.rs.length, Nat.le_refl _, ?_⟩
      · show j.bytes ≤ lenL j.rs; omega
      · show -1 ≤ lessF j.fail
        unfold lessF
        have := h.fail
        split <;> omega
      · show j.bytes = lenL (j.rs.take j.rs.length)
        rw [List.take_length]; exact hb
theorem okL_fail (h : OkL j) (n : Int) : OkL (faiT j n) :=
  ⟨h.many, h.two, h.half, h.stop, h.safe, by show -1 ≤ (if n < 0 then -1 else n); split <;> omega, h.rise, h.cut⟩
theorem okL_crash (h : OkL j) (keep : Int) : OkL (craT j keep) := by
  have hl := leftL_le j.rs (highL j keep)
  have h1 := h.many
  refine ⟨?_, fun r hr => h.two r (List.mem_of_mem_take hr), by show (0 : Nat) ≤ 500; omega, fun _ => rfl, Nat.le_refl _, by show (-1 : Int) ≤ -1; omega, fun i r hr => ?_, _, Nat.le_refl _, ?_⟩
  · show (j.rs.take (leftL j.rs (highL j keep))).length ≤ 30
    rw [List.length_take]
    omega
  · have hr' : (j.rs.take (leftL j.rs (highL j keep)))[i]? = some r := hr
    show raiB (cntL ((j.rs.take (leftL j.rs (highL j keep))).take i)).1 (cntL ((j.rs.take (leftL j.rs (highL j keep))).take i)).2 r.1 r.2.1 = true
    have hi : i < leftL j.rs (highL j keep) := by
      by_cases hi : i < leftL j.rs (highL j keep)
      · exact hi
      · rw [List.getElem?_eq_none (by rw [List.length_take]; omega)] at hr'; cases hr'
    rw [List.getElem?_take_of_lt hi] at hr'
    rw [List.take_take, Nat.min_eq_left (by omega)]
    exact h.rise i r hr'
  · show lenL (j.rs.take (leftL j.rs (highL j keep))) = lenL ((j.rs.take (leftL j.rs (highL j keep))).take (j.rs.take (leftL j.rs (highL j keep))).length)
    rw [List.take_length]
end
end Go.Proofs.YtgnpffkfbacejaaGreatDoor.M
namespace Go.Proofs
open Go.Shelf
def Tryz.lays171_ren : Go.Shelf.Ren := ⟨fun | 171 => 47 | 243 => 70 | 246 => 95 | 283 => 116 | 284 => 117 | 285 => 118 | 286 => 119 | 129 => 128 | 317 => 127 | 318 => 129 | 319 => 130 | 320 => 131 | 337 => 137 | 338 => 138 | n => n, fun | 3 => 3 | 9 => 9 | 2 => 2 | 4 => 4 | 171 => 179 | 0 => 0 | 53 => 180 | 37 => 60 | 5 => 5 | 173 => 183 | 212 => 194 | 51 => 195 | 20 => 20 | 213 => 196 | 46 => 187 | 232 => 206 | 233 => 207 | n => n, fun | 17 => 4 | 18 => 5 | 19 => 6 | n => n⟩
theorem Tryz.lays171 : Go.Proofs.LaysM.n171 Tryz.prog Tryz.lays171_ren := {
  mixed := by kernel_rfl
  f129 := Tryz.func128.trans (congrArg some (by kernel_rfl))
  f171 := Tryz.func47.trans (congrArg some (by kernel_rfl))
  f243 := Tryz.func70.trans (congrArg some (by kernel_rfl))
  f246 := Tryz.func95.trans (congrArg some (by kernel_rfl))
  f283 := Tryz.func116.trans (congrArg some (by kernel_rfl))
  f284 := Tryz.func117.trans (congrArg some (by kernel_rfl))
  f285 := Tryz.func118.trans (congrArg some (by kernel_rfl))
  f286 := Tryz.func119.trans (congrArg some (by kernel_rfl))
  f317 := Tryz.func127.trans (congrArg some (by kernel_rfl))
  f318 := Tryz.func129.trans (congrArg some (by kernel_rfl))
  f319 := Tryz.func130.trans (congrArg some (by kernel_rfl))
  f320 := Tryz.func131.trans (congrArg some (by kernel_rfl))
  f337 := Tryz.func137.trans (congrArg some (by kernel_rfl))
  f338 := Tryz.func138.trans (congrArg some (by kernel_rfl))
  t0 := Tryz.underlying0
  a0 := Tryz.isAgg0
  z0 := Tryz.sizeOf0
  v0 := Tryz.zeroValue0
  t2 := Tryz.underlying2
  a2 := Tryz.isAgg2
  z2 := Tryz.sizeOf2
  v2 := Tryz.zeroValue2
  t3 := Tryz.underlying3
  a3 := Tryz.isAgg3
  z3 := Tryz.sizeOf3
  v3 := Tryz.zeroValue3
  t4 := Tryz.underlying4
  a4 := Tryz.isAgg4
  z4 := Tryz.sizeOf4
  v4 := Tryz.zeroValue4
  t5 := Tryz.underlying5
  a5 := Tryz.isAgg5
  z5 := Tryz.sizeOf5
  v5 := Tryz.zeroValue5
  t9 := Tryz.underlying9
  a9 := Tryz.isAgg9
  z9 := Tryz.sizeOf9
  v9 := Tryz.zeroValue9
  t20 := Tryz.underlying20
  a20 := Tryz.isAgg20
  z20 := Tryz.sizeOf20
  v20 := Tryz.zeroValue20
  t37 := Tryz.underlying60
  a37 := Tryz.isAgg60
  z37 := Tryz.sizeOf60
  v37 := Tryz.zeroValue60
  t46 := Tryz.underlying187
  a46 := Tryz.isAgg187
  z46 := Tryz.sizeOf187
  v46 := Tryz.zeroValue187
  t51 := Tryz.underlying195
  a51 := Tryz.isAgg195
  z51 := Tryz.sizeOf195
  v51 := Tryz.zeroValue195
  t53 := Tryz.underlying180
  a53 := Tryz.isAgg180
  z53 := Tryz.sizeOf180
  v53 := Tryz.zeroValue180
  t171 := Tryz.underlying179
  a171 := Tryz.isAgg179
  z171 := Tryz.sizeOf179
  v171 := Tryz.zeroValue179
  t173 := Tryz.underlying183
  a173 := Tryz.isAgg183
  z173 := Tryz.sizeOf183
  v173 := Tryz.zeroValue183
  t212 := Tryz.underlying194
  a212 := Tryz.isAgg194
  z212 := Tryz.sizeOf194
  v212 := Tryz.zeroValue194
  t213 := Tryz.underlying196
  a213 := Tryz.isAgg196
  z213 := Tryz.sizeOf196
  t232 := Tryz.underlying206
  a232 := Tryz.isAgg206
  z232 := Tryz.sizeOf206
  v232 := Tryz.zeroValue206
  t233 := Tryz.underlying207
  a233 := Tryz.isAgg207
  z233 := Tryz.sizeOf207
  v233 := Tryz.zeroValue207
  g17 := by kernel_rfl
  g18 := by kernel_rfl
  g19 := by kernel_rfl
  i0 := by kernel_rfl
  i2 := by kernel_rfl
  i3 := by kernel_rfl
  i4 := by kernel_rfl
  i5 := by kernel_rfl
  i9 := by kernel_rfl
  i20 := by kernel_rfl
  i37 := by kernel_rfl
  i46 := by kernel_rfl
  i51 := by kernel_rfl
  i53 := by kernel_rfl
  i171 := by kernel_rfl
  i173 := by kernel_rfl
  i212 := by kernel_rfl
  i232 := by kernel_rfl
  i233 := by kernel_rfl
  m17 := by kernel_rfl
  m18 := by kernel_rfl
  m19 := by kernel_rfl }
def Tryz.lays172_ren : Go.Shelf.Ren := ⟨fun | 172 => 52 | 244 => 74 | 245 => 75 | 247 => 97 | 279 => 98 | 280 => 99 | 281 => 100 | 282 => 101 | 287 => 124 | 316 => 71 | 171 => 47 | 205 => 125 | 321 => 134 | 322 => 135 | 243 => 70 | 246 => 95 | 283 => 116 | 284 => 117 | 285 => 118 | 286 => 119 | 129 => 128 | 317 => 127 | 318 => 129 | 319 => 130 | 320 => 131 | 337 => 137 | 338 => 138 | n => n, fun | 9 => 9 | 3 => 3 | 75 => 27 | 76 => 32 | 4 => 4 | 5 => 5 | 167 => 152 | 37 => 60 | 0 => 0 | 85 => 153 | 2 => 2 | 168 => 155 | 53 => 180 | 175 => 188 | 46 => 187 | 210 => 191 | 127 => 150 | 145 => 203 | 143 => 201 | 21 => 21 | 171 => 179 | 173 => 183 | 212 => 194 | 51 => 195 | 20 => 20 | 213 => 196 | 232 => 206 | 233 => 207 | 80 => 208 | n => n, fun | 15 => 2 | 16 => 3 | 17 => 4 | 18 => 5 | 19 => 6 | n => n⟩
theorem Tryz.lays172 : Go.Proofs.LaysC.n172 Tryz.prog Tryz.lays172_ren := {
  mixed := by kernel_rfl
  f129 := Tryz.func128.trans (congrArg some (by kernel_rfl))
  f171 := Tryz.func47.trans (congrArg some (by kernel_rfl))
  f172 := Tryz.func52.trans (congrArg some (by kernel_rfl))
  f205 := Tryz.func125.trans (congrArg some (by kernel_rfl))
  f243 := Tryz.func70.trans (congrArg some (by kernel_rfl))
  f244 := Tryz.func74.trans (congrArg some (by kernel_rfl))
  f245 := Tryz.func75.trans (congrArg some (by kernel_rfl))
  f246 := Tryz.func95.trans (congrArg some (by kernel_rfl))
  f247 := Tryz.func97.trans (congrArg some (by kernel_rfl))
  f279 := Tryz.func98.trans (congrArg some (by kernel_rfl))
  f280 := Tryz.func99.trans (congrArg some (by kernel_rfl))
  f281 := Tryz.func100.trans (congrArg some (by kernel_rfl))
  f282 := Tryz.func101.trans (congrArg some (by kernel_rfl))
  f283 := Tryz.func116.trans (congrArg some (by kernel_rfl))
  f284 := Tryz.func117.trans (congrArg some (by kernel_rfl))
  f285 := Tryz.func118.trans (congrArg some (by kernel_rfl))
  f286 := Tryz.func119.trans (congrArg some (by kernel_rfl))
  f287 := Tryz.func124.trans (congrArg some (by kernel_rfl))
  f316 := Tryz.func71.trans (congrArg some (by kernel_rfl))
  f317 := Tryz.func127.trans (congrArg some (by kernel_rfl))
  f318 := Tryz.func129.trans (congrArg some (by kernel_rfl))
  f319 := Tryz.func130.trans (congrArg some (by kernel_rfl))
  f320 := Tryz.func131.trans (congrArg some (by kernel_rfl))
  f321 := Tryz.func134.trans (congrArg some (by kernel_rfl))
  f322 := Tryz.func135.trans (congrArg some (by kernel_rfl))
  f337 := Tryz.func137.trans (congrArg some (by kernel_rfl))
  f338 := Tryz.func138.trans (congrArg some (by kernel_rfl))
  t0 := Tryz.underlying0
  a0 := Tryz.isAgg0
  z0 := Tryz.sizeOf0
  v0 := Tryz.zeroValue0
  t2 := Tryz.underlying2
  a2 := Tryz.isAgg2
  z2 := Tryz.sizeOf2
  v2 := Tryz.zeroValue2
  t3 := Tryz.underlying3
  a3 := Tryz.isAgg3
  z3 := Tryz.sizeOf3
  v3 := Tryz.zeroValue3
  t4 := Tryz.underlying4
  a4 := Tryz.isAgg4
  z4 := Tryz.sizeOf4
  v4 := Tryz.zeroValue4
  t5 := Tryz.underlying5
  a5 := Tryz.isAgg5
  z5 := Tryz.sizeOf5
  v5 := Tryz.zeroValue5
  t9 := Tryz.underlying9
  a9 := Tryz.isAgg9
  z9 := Tryz.sizeOf9
  v9 := Tryz.zeroValue9
  t20 := Tryz.underlying20
  a20 := Tryz.isAgg20
  z20 := Tryz.sizeOf20
  v20 := Tryz.zeroValue20
  t21 := Tryz.underlying21
  a21 := Tryz.isAgg21
  z21 := Tryz.sizeOf21
  v21 := Tryz.zeroValue21
  t37 := Tryz.underlying60
  a37 := Tryz.isAgg60
  z37 := Tryz.sizeOf60
  v37 := Tryz.zeroValue60
  t46 := Tryz.underlying187
  a46 := Tryz.isAgg187
  z46 := Tryz.sizeOf187
  v46 := Tryz.zeroValue187
  t51 := Tryz.underlying195
  a51 := Tryz.isAgg195
  z51 := Tryz.sizeOf195
  v51 := Tryz.zeroValue195
  t53 := Tryz.underlying180
  a53 := Tryz.isAgg180
  z53 := Tryz.sizeOf180
  v53 := Tryz.zeroValue180
  t75 := Tryz.underlying27
  a75 := Tryz.isAgg27
  z75 := Tryz.sizeOf27
  v75 := Tryz.zeroValue27
  t76 := Tryz.underlying32
  a76 := Tryz.isAgg32
  z76 := Tryz.sizeOf32
  v76 := Tryz.zeroValue32
  t85 := Tryz.underlying153
  a85 := Tryz.isAgg153
  z85 := Tryz.sizeOf153
  v85 := Tryz.zeroValue153
  t127 := Tryz.underlying150
  a127 := Tryz.isAgg150
  z127 := Tryz.sizeOf150
  v127 := Tryz.zeroValue150
  t143 := Tryz.underlying201
  a143 := Tryz.isAgg201
  z143 := Tryz.sizeOf201
  v143 := Tryz.zeroValue201
  t145 := Tryz.underlying203
  a145 := Tryz.isAgg203
  z145 := Tryz.sizeOf203
  v145 := Tryz.zeroValue203
  t167 := Tryz.underlying152
  a167 := Tryz.isAgg152
  z167 := Tryz.sizeOf152
  v167 := Tryz.zeroValue152
  t168 := Tryz.underlying155
  a168 := Tryz.isAgg155
  z168 := Tryz.sizeOf155
  v168 := Tryz.zeroValue155
  t171 := Tryz.underlying179
  a171 := Tryz.isAgg179
  z171 := Tryz.sizeOf179
  v171 := Tryz.zeroValue179
  t173 := Tryz.underlying183
  a173 := Tryz.isAgg183
  z173 := Tryz.sizeOf183
  v173 := Tryz.zeroValue183
  t175 := Tryz.underlying188
  a175 := Tryz.isAgg188
  z175 := Tryz.sizeOf188
  v175 := Tryz.zeroValue188
  t210 := Tryz.underlying191
  a210 := Tryz.isAgg191
  z210 := Tryz.sizeOf191
  v210 := Tryz.zeroValue191
  t212 := Tryz.underlying194
  a212 := Tryz.isAgg194
  z212 := Tryz.sizeOf194
  v212 := Tryz.zeroValue194
  t213 := Tryz.underlying196
  a213 := Tryz.isAgg196
  z213 := Tryz.sizeOf196
  t232 := Tryz.underlying206
  a232 := Tryz.isAgg206
  z232 := Tryz.sizeOf206
  v232 := Tryz.zeroValue206
  t233 := Tryz.underlying207
  a233 := Tryz.isAgg207
  z233 := Tryz.sizeOf207
  v233 := Tryz.zeroValue207
  g15 := by kernel_rfl
  g16 := by kernel_rfl
  g17 := by kernel_rfl
  g18 := by kernel_rfl
  g19 := by kernel_rfl
  t80 := Tryz.underlying208
  a80 := Tryz.isAgg208
  z80 := Tryz.sizeOf208
  v80 := Tryz.zeroValue208
  i0 := by kernel_rfl
  i2 := by kernel_rfl
  i3 := by kernel_rfl
  i4 := by kernel_rfl
  i5 := by kernel_rfl
  i9 := by kernel_rfl
  i20 := by kernel_rfl
  i21 := by kernel_rfl
  i37 := by kernel_rfl
  i46 := by kernel_rfl
  i51 := by kernel_rfl
  i53 := by kernel_rfl
  i75 := by kernel_rfl
  i76 := by kernel_rfl
  i80 := by kernel_rfl
  i85 := by kernel_rfl
  i127 := by kernel_rfl
  i143 := by kernel_rfl
  i145 := by kernel_rfl
  i167 := by kernel_rfl
  i168 := by kernel_rfl
  i171 := by kernel_rfl
  i173 := by kernel_rfl
  i175 := by kernel_rfl
  i210 := by kernel_rfl
  i212 := by kernel_rfl
  i232 := by kernel_rfl
  i233 := by kernel_rfl
  m15 := by kernel_rfl
  m16 := by kernel_rfl
  m17 := by kernel_rfl
  m18 := by kernel_rfl
  m19 := by kernel_rfl
  c0 := by kernel_rfl
  c2 := by kernel_rfl
  c3 := by kernel_rfl
  c4 := by kernel_rfl
  c5 := by kernel_rfl
  c9 := by kernel_rfl
  c20 := by kernel_rfl
  c21 := by kernel_rfl
  c37 := by kernel_rfl
  c46 := by kernel_rfl
  c51 := by kernel_rfl
  c53 := by kernel_rfl
  c75 := by kernel_rfl
  c76 := by kernel_rfl
  c80 := by kernel_rfl
  c85 := by kernel_rfl
  c127 := by kernel_rfl
  c143 := by kernel_rfl
  c145 := by kernel_rfl
  c167 := by kernel_rfl
  c168 := by kernel_rfl
  c171 := by kernel_rfl
  c173 := by kernel_rfl
  c175 := by kernel_rfl
  c210 := by kernel_rfl
  c212 := by kernel_rfl
  c213 := by kernel_rfl
  c232 := by kernel_rfl
  c233 := by kernel_rfl }
def Tryz.lays316_ren : Go.Shelf.Ren := ⟨fun | 316 => 71 | n => n, fun | 9 => 9 | 3 => 3 | 4 => 4 | 37 => 60 | 0 => 0 | 127 => 150 | 5 => 5 | n => n, fun | n => n⟩
theorem Tryz.lays316 : Go.Proofs.LaysM.n316 Tryz.prog Tryz.lays316_ren := {
  mixed := by kernel_rfl
  f316 := Tryz.func71.trans (congrArg some (by kernel_rfl))
  t0 := Tryz.underlying0
  a0 := Tryz.isAgg0
  z0 := Tryz.sizeOf0
  v0 := Tryz.zeroValue0
  t3 := Tryz.underlying3
  a3 := Tryz.isAgg3
  z3 := Tryz.sizeOf3
  v3 := Tryz.zeroValue3
  t4 := Tryz.underlying4
  a4 := Tryz.isAgg4
  z4 := Tryz.sizeOf4
  v4 := Tryz.zeroValue4
  t9 := Tryz.underlying9
  a9 := Tryz.isAgg9
  z9 := Tryz.sizeOf9
  v9 := Tryz.zeroValue9
  t37 := Tryz.underlying60
  a37 := Tryz.isAgg60
  z37 := Tryz.sizeOf60
  v37 := Tryz.zeroValue60
  t127 := Tryz.underlying150
  a127 := Tryz.isAgg150
  z127 := Tryz.sizeOf150
  v127 := Tryz.zeroValue150
  t5 := Tryz.underlying5
  a5 := Tryz.isAgg5
  z5 := Tryz.sizeOf5
  v5 := Tryz.zeroValue5
  i0 := by kernel_rfl
  i3 := by kernel_rfl
  i4 := by kernel_rfl
  i5 := by kernel_rfl
  i9 := by kernel_rfl
  i37 := by kernel_rfl
  i127 := by kernel_rfl }
def Tryz.lays17_ren : Go.Shelf.Ren := ⟨fun | 17 => 102 | 15 => 126 | 20 => 136 | n => n, fun | 9 => 9 | 23 => 159 | 4 => 4 | 3 => 3 | 0 => 0 | 21 => 21 | n => n, fun | n => n⟩
theorem Tryz.lays17 : Go.Proofs.LaysGw.n17 Tryz.prog Tryz.lays17_ren := {
  mixed := by kernel_rfl
  f15 := Tryz.func126.trans (congrArg some (by kernel_rfl))
  f17 := Tryz.func102.trans (congrArg some (by kernel_rfl))
  f20 := Tryz.func136.trans (congrArg some (by kernel_rfl))
  t0 := Tryz.underlying0
  a0 := Tryz.isAgg0
  z0 := Tryz.sizeOf0
  v0 := Tryz.zeroValue0
  i0 := by kernel_rfl
  t3 := Tryz.underlying3
  a3 := Tryz.isAgg3
  z3 := Tryz.sizeOf3
  v3 := Tryz.zeroValue3
  i3 := by kernel_rfl
  t4 := Tryz.underlying4
  a4 := Tryz.isAgg4
  z4 := Tryz.sizeOf4
  v4 := Tryz.zeroValue4
  i4 := by kernel_rfl
  t9 := Tryz.underlying9
  a9 := Tryz.isAgg9
  z9 := Tryz.sizeOf9
  v9 := Tryz.zeroValue9
  i9 := by kernel_rfl
  t21 := Tryz.underlying21
  a21 := Tryz.isAgg21
  z21 := Tryz.sizeOf21
  v21 := Tryz.zeroValue21
  i21 := by kernel_rfl
  t23 := Tryz.underlying159
  a23 := Tryz.isAgg159
  z23 := Tryz.sizeOf159
  v23 := Tryz.zeroValue159
  i23 := by kernel_rfl }
def Tryz.lays187_ren : Go.Shelf.Ren := ⟨fun | 187 => 50 | 255 => 72 | n => n, fun | 37 => 60 | 5 => 5 | 3 => 3 | n => n, fun | n => n⟩
theorem Tryz.lays187 : Go.Proofs.Lays.n187 Tryz.prog Tryz.lays187_ren := {
  mixed := by kernel_rfl
  f187 := Tryz.func50.trans (congrArg some (by kernel_rfl))
  f255 := Tryz.func72.trans (congrArg some (by kernel_rfl))
  t3 := Tryz.underlying3
  a3 := Tryz.isAgg3
  z3 := Tryz.sizeOf3
  v3 := Tryz.zeroValue3
  t5 := Tryz.underlying5
  a5 := Tryz.isAgg5
  z5 := Tryz.sizeOf5
  v5 := Tryz.zeroValue5
  t37 := Tryz.underlying60
  a37 := Tryz.isAgg60
  z37 := Tryz.sizeOf60
  v37 := Tryz.zeroValue60 }
def Tryz.lays219_ren : Go.Shelf.Ren := ⟨fun | 219 => 96 | 217 => 120 | 225 => 121 | 224 => 122 | 267 => 123 | 266 => 132 | 314 => 133 | n => n, fun | 9 => 9 | 3 => 3 | 4 => 4 | 5 => 5 | 46 => 187 | 146 => 198 | 51 => 195 | n => n, fun | 1 => 1 | n => n⟩
theorem Tryz.lays219 : Go.Proofs.Lays.n219 Tryz.prog Tryz.lays219_ren := {
  mixed := by kernel_rfl
  f217 := Tryz.func120.trans (congrArg some (by kernel_rfl))
  f219 := Tryz.func96.trans (congrArg some (by kernel_rfl))
  f224 := Tryz.func122.trans (congrArg some (by kernel_rfl))
  f225 := Tryz.func121.trans (congrArg some (by kernel_rfl))
  f266 := Tryz.func132.trans (congrArg some (by kernel_rfl))
  f267 := Tryz.func123.trans (congrArg some (by kernel_rfl))
  f314 := Tryz.func133.trans (congrArg some (by kernel_rfl))
  t3 := Tryz.underlying3
  a3 := Tryz.isAgg3
  z3 := Tryz.sizeOf3
  v3 := Tryz.zeroValue3
  t4 := Tryz.underlying4
  a4 := Tryz.isAgg4
  z4 := Tryz.sizeOf4
  v4 := Tryz.zeroValue4
  t5 := Tryz.underlying5
  a5 := Tryz.isAgg5
  z5 := Tryz.sizeOf5
  v5 := Tryz.zeroValue5
  t9 := Tryz.underlying9
  a9 := Tryz.isAgg9
  z9 := Tryz.sizeOf9
  v9 := Tryz.zeroValue9
  t46 := Tryz.underlying187
  a46 := Tryz.isAgg187
  z46 := Tryz.sizeOf187
  v46 := Tryz.zeroValue187
  t51 := Tryz.underlying195
  a51 := Tryz.isAgg195
  z51 := Tryz.sizeOf195
  v51 := Tryz.zeroValue195
  t146 := Tryz.underlying198
  a146 := Tryz.isAgg198
  z146 := Tryz.sizeOf198
  v146 := Tryz.zeroValue198
  g1 := by kernel_rfl }
end Go.Proofs
namespace Go.Proofs.YtgnpffkfbacejaaGreatDoor.Image
open Go.ChangeShapes Go.WideShapes Go.ChangeAt Go.RowKit
open Go.Proofs.YtgnpffkfbacejaaGreatDoor.M
set_option linter.unusedVariables false

theorem off_any (r : Nat) (w : World) : Calls Tryz.prog 103 #[.int .i32 r] w fun e w' => e = .returned (.bool (offR r)) ∧ w' = w := by
  by_cases h1 : r < 97
  · have hz : (r : Int) < 97 := by omega
    have E := hide (show offR r = true by unfold offR; simp [h1])
    clear h1
    go_enter Tryz.func103, Tryz.ntmps103
    go_wp2
    go_ret
    exact ⟨by rw [E.out]; rfl, rfl⟩
  · have hz : ¬ (r : Int) < 97 := by omega
    by_cases h2 : 122 < r
    · have hy : (122 : Int) < r := by omega
      have E := hide (show offR r = true by unfold offR; simp [h1, h2])
      clear h1 h2
      go_enter Tryz.func103, Tryz.ntmps103
      go_wp2
      go_ret
      exact ⟨by rw [E.out]; rfl, rfl⟩
    · have hy : ¬ (122 : Int) < r := by omega
      have E := hide (show offR r = false by unfold offR; simp [h1, h2])
      clear h1 h2
      go_enter Tryz.func103, Tryz.ntmps103
      go_wp2
      go_ret
      exact ⟨by rw [E.out]; rfl, rfl⟩

theorem pred (w : World) : PredAt Tryz.prog 103 #[] encR offR w := fun W r _ =>
  (off_any r W).mono fun _ _ ⟨he, hw⟩ => ⟨he, 0, hw⟩

theorem contains_any (s : ByteArray) (w : World) :
    Calls Tryz.prog 102 #[.string s, .func (.func 103) #[] #[]] w fun e w' => e = .returned (.bool (!letS s)) ∧ Below w.heap.size w w' := by
  have h := Any.strings_ContainsFunc Tryz.lays17 103 #[] (enters_of Tryz.func103 (by kernel_rfl) rfl) offR s w (pred w)
  rw [idx_letters] at h
  exact h

theorem letters_any (s : ByteArray) (w : World) :
    Calls Tryz.prog 76 #[.string s] w fun e w' => e = .returned (.bool (letS s)) ∧ Below w.heap.size w w' := by
  go_enter Tryz.func76, Tryz.ntmps76
  go_wp2_with (go_at_call 102; refine (contains_any s _).mono ?_; rintro e w' ⟨rfl, hb⟩)
  go_ret
  exact ⟨by simp, hb⟩

theorem empty_is {s : ByteArray} (h : s.size = 0) : s.toList.isEmpty = true := by
  rw [Lib.toList_data]
  have := len_size s
  cases e : s.data.toList with
  | nil => rfl
  | cons a l => rw [e, List.length_cons] at this; omega
theorem empty_not {s : ByteArray} (h : ¬ s.size = 0) : s.toList.isEmpty = false := by
  rw [Lib.toList_data]
  have := len_size s
  cases e : s.data.toList with
  | nil => rw [e, List.length_nil] at this; omega
  | cons a l => rfl

theorem version_any (v : Int) (w : World) : Calls Tryz.prog 46 #[.int .i64 v] w fun e w' => e = .returned (.bool (verB v)) ∧ w' = w := by
  by_cases h1 : 1 ≤ v
  · by_cases h2 : v ≤ 1000
    · have E := hide (verB_is h1 h2)
      go_enter Tryz.func46, Tryz.ntmps46
      go_wp2
      go_ret
      exact ⟨by rw [E.out]; rfl, rfl⟩
    · have E := hide (verB_not (v := v) (Or.inr (by omega)))
      go_enter Tryz.func46, Tryz.ntmps46
      go_wp2
      go_ret
      exact ⟨by rw [E.out]; rfl, rfl⟩
  · have E := hide (verB_not (v := v) (Or.inl (by omega)))
    go_enter Tryz.func46, Tryz.ntmps46
    go_wp2
    go_ret
    exact ⟨by rw [E.out]; rfl, rfl⟩

set_option maxHeartbeats 4000000 in
theorem check_any (nm cd : ByteArray) (v : Int) (w : World) (hn : nm.size ≤ 140737488351232) (hc : cd.size ≤ 140737488351232) :
    Calls Tryz.prog 107 #[.agg (imgC nm v cd)] w fun e w' => e = .returned (errV 63 (imgE nm v cd)) ∧ Below w.heap.size w w' := by
  have HB := hide (below_new w (.cells (imgC nm v cd) 77))
  have HG := hide (blk_new w (.cells (imgC nm v cd) 77))
  by_cases h0 : nm.size = 0
  · have E := hide (imgE_shape (nm := nm) (cd := cd) (v := v) (Or.inl h0))
    have h1 := empty_is h0
    clear h0
    unfold imgC at HB ⊢
    go_enter Tryz.func107, Tryz.ntmps107
    go_wp2
    go_ret
    exact ⟨by rw [E.out]; rfl, HB.out⟩
  · have h1 := empty_not h0
    have H0 := hide h0
    clear h0
    unfold imgC at HB HG ⊢
    go_enter Tryz.func107, Tryz.ntmps107
    go_wp2_with (fail)
    refine (letters_any nm _).mono ?_
    rintro e w1 ⟨rfl, hb1⟩
    have HB1 := hide (below_on HB.out hb1)
    have HG1 := hide (blk_below HG.out hb1)
    clear hb1 HB HG
    obtain ⟨c10, c11, c12⟩ := img_cells HG1.out
    cases ha : letS nm with
    | false =>
      have E := hide (imgE_shape (nm := nm) (cd := cd) (v := v) (Or.inr (Or.inl ha)))
      clear ha
      go_wp2
      go_ret
      exact ⟨by rw [E.out]; rfl, HB1.out⟩
    | true =>
      have HA := hide ha
      clear ha
      go_wp2_with (fail)
      refine (letters_any cd _).mono ?_
      rintro e w2 ⟨rfl, hb2⟩
      have HB2 := hide (below_on HB1.out hb2)
      have HG2 := hide (blk_below HG1.out hb2)
      clear hb2 HB1 HG1 c10 c11 c12
      obtain ⟨c20, c21, c22⟩ := img_cells HG2.out
      cases hb : letS cd with
      | false =>
        have E := hide (imgE_shape (nm := nm) (cd := cd) (v := v) (Or.inr (Or.inr hb)))
        clear hb
        go_wp2
        go_ret
        exact ⟨by rw [E.out]; rfl, HB2.out⟩
      | true =>
        have HC := hide hb
        clear hb
        by_cases h8 : 8 < nm.size
        · have E := hide (imgE_full (v := v) H0.out HA.out HC.out (Or.inl h8))
          have h8' : (8 : Int) < nm.size := by omega
          clear h8
          go_wp2
          go_ret
          exact ⟨by rw [E.out]; rfl, HB2.out⟩
        · have h8' : ¬ (8 : Int) < nm.size := by omega
          by_cases h9 : 8 < cd.size
          · have E := hide (imgE_full (v := v) H0.out HA.out HC.out (Or.inr h9))
            have h9' : (8 : Int) < cd.size := by omega
            clear h8 h9
            go_wp2
            go_ret
            exact ⟨by rw [E.out]; rfl, HB2.out⟩
          · have h9' : ¬ (8 : Int) < cd.size := by omega
            have HF := hide (show ¬ (8 < nm.size ∨ 8 < cd.size) by omega)
            clear h8 h9
            cases hv : verB v with
            | false =>
              have E := hide (imgE_range H0.out HA.out HC.out HF.out (verB_no hv))
              go_wp2_with (go_at_call 46; refine (version_any v _).mono ?_; rintro e w3 ⟨rfl, rfl⟩; rw [hv])
              go_ret
              exact ⟨by rw [E.out]; rfl, HB2.out⟩
            | true =>
              have E := hide (imgE_none (v := v) H0.out HA.out HC.out HF.out (fun hh => by have := verB_yes hv; omega))
              go_wp2_with (go_at_call 46; refine (version_any v _).mono ?_; rintro e w3 ⟨rfl, rfl⟩; rw [hv])
              go_ret
              exact ⟨by rw [E.out]; rfl, HB2.out⟩
end Go.Proofs.YtgnpffkfbacejaaGreatDoor.Image
namespace Go.Proofs.YtgnpffkfbacejaaGreatDoor.M
open Go.RowKit

theorem decFrom_ge : ∀ (l : List UInt8) (acc m : Nat), Lib.decFrom acc l = some m → acc ≤ m
  | [], acc, m, h => by simp only [Lib.decFrom, Option.some.injEq] at h; omega
  | b :: r, acc, m, h => by
    simp only [Lib.decFrom] at h
    cases hd : Lib.digitVal b with
    | none => rw [hd] at h; cases h
    | some d => rw [hd] at h; have := decFrom_ge r _ m h; omega
theorem decFrom_snoc : ∀ (l : List UInt8) (acc : Nat) (b : UInt8), Lib.decFrom acc (l ++ [b]) = (Lib.decFrom acc l).bind fun m => (Lib.digitVal b).map fun d => m * 10 + d
  | [], acc, b => by
    simp only [List.nil_append, Lib.decFrom, Option.bind_some]
    cases Lib.digitVal b <;> rfl
  | c :: r, acc, b => by
    simp only [List.cons_append, Lib.decFrom]
    cases Lib.digitVal c with
    | none => rfl
    | some d => exact decFrom_snoc r _ b
theorem digit_ofNat {d : Nat} (h : d < 10) : Lib.digitVal (UInt8.ofNat (48 + d)) = some d := by
  have e : (UInt8.ofNat (48 + d)).toNat = 48 + d := by simp; omega
  unfold Lib.digitVal
  rw [e, if_pos (by omega)]
  congr 1
  omega
theorem ofNat_digit {b : UInt8} {d : Nat} (h : Lib.digitVal b = some d) : UInt8.ofNat (48 + d) = b ∧ d < 10 := by
  obtain ⟨h1, h2, rfl⟩ := Lib.digitVal_eq h
  refine ⟨?_, by omega⟩
  rw [show 48 + (b.toNat - 48) = b.toNat by omega]
  exact UInt8.ofNat_toNat
theorem dec_small {n : Nat} (h : n < 10) : Lib.decDigits n = [UInt8.ofNat (48 + n)] := by rw [Lib.decDigits, dif_pos h]
theorem dec_big {n : Nat} (h : ¬ n < 10) : Lib.decDigits n = Lib.decDigits (n / 10) ++ [UInt8.ofNat (48 + n % 10)] := by rw [Lib.decDigits, dif_neg h]
theorem dec_ne (n : Nat) : Lib.decDigits n ≠ [] := by
  by_cases h : n < 10
  · rw [dec_small h]; simp
  · rw [dec_big h]; simp
theorem decFrom_dec : ∀ (k n : Nat), n ≤ k → Lib.decFrom 0 (Lib.decDigits n) = some n
  | k, n, hk => by
    by_cases h : n < 10
    · rw [dec_small h]
      simp only [Lib.decFrom, digit_ofNat h]
      congr 1
      omega
    · cases k with
      | zero => omega
      | succ k =>
        rw [dec_big h, decFrom_snoc, decFrom_dec k (n / 10) (by omega), Option.bind_some, digit_ofNat (Nat.mod_lt _ (by omega))]
        simp only [Option.map_some]
        congr 1
        omega
theorem head_snoc {α : Type} {l : List α} (h : l ≠ []) (b : α) : (l ++ [b]).head? = l.head? := by
  cases l with
  | nil => exact absurd rfl h
  | cons a r => rfl
theorem dec_head : ∀ (k n : Nat), n ≤ k → (Lib.decDigits n).head? = some 48 → n = 0
  | k, n, hk, hh => by
    by_cases h : n < 10
    · rw [dec_small h] at hh
      have e := Option.some.inj hh
      have e2 : (UInt8.ofNat (48 + n)).toNat = 48 := by rw [e]; rfl
      have e3 : (UInt8.ofNat (48 + n)).toNat = 48 + n := by simp; omega
      omega
    · cases k with
      | zero => omega
      | succ k =>
        rw [dec_big h, head_snoc (dec_ne _)] at hh
        have := dec_head k (n / 10) (by omega) hh
        omega
/-- A number of at most four digits, without a needless nought. -/
def numO (l : List UInt8) : Option Nat := if l = [] ∨ 4 < l.length ∨ (l.head? = some 48 ∧ 1 < l.length) then none else Lib.decFrom 0 l
theorem numO_dec {n : Nat} (h : (Lib.decDigits n).length ≤ 4) : numO (Lib.decDigits n) = some n := by
  unfold numO
  rw [if_neg, decFrom_dec n n (Nat.le_refl _)]
  intro hh
  rcases hh with hh | hh | ⟨h1, h2⟩
  · exact dec_ne n hh
  · omega
  · have := dec_head n n (Nat.le_refl _) h1
    subst this
    rw [dec_small (by omega)] at h2
    simp at h2
theorem dec_of : ∀ (k : Nat) (l : List UInt8) (n : Nat), l.length ≤ k → l ≠ [] → (l.head? = some 48 → l.length = 1) → Lib.decFrom 0 l = some n → Lib.decDigits n = l
  | 0, l, n, hk, hne, _, _ => by
    cases l with
    | nil => exact absurd rfl hne
    | cons a r => simp at hk
  | k + 1, l, n, hk, hne, hz, hd => by
    obtain ⟨r, b, rfl⟩ : ∃ r b, l = r ++ [b] := ⟨l.dropLast, l.getLast hne, (List.dropLast_concat_getLast hne).symm⟩
    rw [decFrom_snoc] at hd
    cases hr : Lib.decFrom 0 r with
    | none => rw [hr] at hd; cases hd
    | some m =>
      rw [hr, Option.bind_some] at hd
      cases hb : Lib.digitVal b with
      | none => rw [hb] at hd; cases hd
      | some d =>
        rw [hb] at hd
        have hn : m * 10 + d = n := Option.some.inj hd
        obtain ⟨eb, hd10⟩ := ofNat_digit hb
        by_cases hre : r = []
        · subst hre
          simp only [Lib.decFrom, Option.some.injEq] at hr
          subst hr
          rw [show n = d by omega, dec_small hd10, eb]
          rfl
        · have hh := head_snoc hre b
          have hr48 : r.head? ≠ some 48 := by
            intro h48
            have := hz (by rw [hh]; exact h48)
            cases r with
            | nil => exact hre rfl
            | cons a t => simp at this
          have ih := dec_of k r m (by simp at hk; omega) hre (fun h => absurd h hr48) hr
          have hm : 1 ≤ m := by
            cases r with
            | nil => exact absurd rfl hre
            | cons a t =>
              simp only [Lib.decFrom] at hr
              cases ha : Lib.digitVal a with
              | none => rw [ha] at hr; cases hr
              | some x =>
                rw [ha] at hr
                have hx := decFrom_ge t _ m hr
                obtain ⟨ea, _⟩ := ofNat_digit ha
                have : x ≠ 0 := by
                  intro h0
                  subst h0
                  apply hr48
                  rw [← ea]
                  rfl
                omega
          rw [dec_big (by omega), show n / 10 = m by omega, show n % 10 = d by omega, ih, eb]
theorem itoa_nat (n : Nat) : Lib.itoa n = Lib.decDigits n := by
  unfold Lib.itoa
  rw [if_neg (by omega)]
  rfl
theorem numO_some {l : List UInt8} {n : Nat} (h : numO l = some n) : l ≠ [] ∧ l.length ≤ 4 ∧ (l.head? = some 48 → l.length = 1) ∧ Lib.decFrom 0 l = some n := by
  unfold numO at h
  split at h
  · cases h
  · rename_i hc
    have hne : l ≠ [] := fun e => hc (Or.inl e)
    refine ⟨hne, by omega, fun h48 => ?_, h⟩
    have : ¬ 1 < l.length := fun h1 => hc (Or.inr (Or.inr ⟨h48, h1⟩))
    cases l with
    | nil => exact absurd rfl hne
    | cons a r => simp at this ⊢; exact this
theorem numO_itoa {l : List UInt8} {n : Nat} (h : numO l = some n) : Lib.itoa n = l := by
  obtain ⟨h1, h2, h3, h4⟩ := numO_some h
  rw [itoa_nat]
  exact dec_of l.length l n (Nat.le_refl _) h1 h3 h4
theorem numO_atoi {l : List UInt8} {n : Nat} (h : numO l = some n) : Lib.atoi l = some (n : Int) := by
  obtain ⟨h1, h2, h3, h4⟩ := numO_some h
  cases l with
  | nil => exact absurd rfl h1
  | cons b r =>
    have hb : ∃ d, Lib.digitVal b = some d := by
      simp only [Lib.decFrom] at h4
      cases hd : Lib.digitVal b with
      | none => rw [hd] at h4; cases h4
      | some d => exact ⟨d, rfl⟩
    obtain ⟨d, hd⟩ := hb
    obtain ⟨e1, e2, _⟩ := Lib.digitVal_eq hd
    have n45 : ¬ (b == 45) = true := by
      intro e
      have e := beq_iff_eq.1 e
      subst e
      revert e1
      decide
    have n43 : ¬ (b == 43) = true := by
      intro e
      have e := beq_iff_eq.1 e
      subst e
      revert e1
      decide
    show (if (b == 45) = true then _ else _) = _
    rw [if_neg n45, if_neg n43]
    unfold Lib.decNat
    rw [if_neg (by simp), h4]
    rfl
theorem numO_lt {l : List UInt8} {n : Nat} (h : numO l = some n) : n < 10000 := by
  obtain ⟨h1, h2, h3, h4⟩ := numO_some h
  have := Lib.decFrom_lt l 0 n h4
  have hp : 10 ^ l.length ≤ 10 ^ 4 := Nat.pow_le_pow_right (by omega) h2
  omega

/-- A text cut at its blanks; acc: what stands since the last one. -/
def cutAcc (acc : List UInt8) : List UInt8 → List (List UInt8)
  | [] => [acc]
  | b :: l => if b = 32 then acc :: cutAcc [] l else cutAcc (acc ++ [b]) l
def cutL (l : List UInt8) : List (List UInt8) := cutAcc [] l
theorem cut_none : ∀ (l acc : List UInt8), (32 : UInt8) ∉ l → cutAcc acc l = [acc ++ l]
  | [], acc, _ => by simp [cutAcc]
  | b :: l, acc, h => by
    have hb : ¬ b = 32 := fun e => h (by simp [e])
    rw [cutAcc, if_neg hb, cut_none l _ (fun hm => h (by simp [hm]))]
    simp
theorem cut_hit : ∀ (a acc r : List UInt8), (32 : UInt8) ∉ a → cutAcc acc (a ++ 32 :: r) = (acc ++ a) :: cutAcc [] r
  | [], acc, r, _ => by simp [cutAcc]
  | b :: a, acc, r, h => by
    have hb : ¬ b = 32 := fun e => h (by simp [e])
    rw [List.cons_append, cutAcc, if_neg hb, cut_hit a _ r (fun hm => h (by simp [hm]))]
    simp
theorem cut_len : ∀ (l acc : List UInt8), (cutAcc acc l).length ≤ l.length + 1 ∧ 1 ≤ (cutAcc acc l).length
  | [], acc => by simp [cutAcc]
  | b :: l, acc => by
    rw [cutAcc]
    split
    · have := cut_len l []
      simp only [List.length_cons]
      omega
    · have := cut_len l (acc ++ [b])
      simp only [List.length_cons]
      omega
theorem index_parts : ∀ (l : List UInt8) (c : UInt8), (Lib.indexByte l c = -1 ∧ c ∉ l) ∨ ∃ a r, l = a ++ c :: r ∧ c ∉ a ∧ Lib.indexByte l c = a.length
  | [], c => Or.inl ⟨rfl, by simp⟩
  | b :: l, c => by
    by_cases hb : b = c
    · subst hb
      exact Or.inr ⟨[], l, rfl, by simp, by simp [Lib.indexByte]⟩
    · have hbc : ¬ (b == c) = true := by simpa using hb
      rcases index_parts l c with ⟨h1, h2⟩ | ⟨a, r, rfl, h2, h3⟩
      · refine Or.inl ⟨?_, by simp [h2, Ne.symm hb]⟩
        rw [Lib.indexByte, if_neg hbc, h1]
        rfl
      · refine Or.inr ⟨b :: a, r, rfl, by simp [h2, Ne.symm hb], ?_⟩
        rw [Lib.indexByte, if_neg hbc, h3, if_neg (by simp)]
        simp
theorem split_cut : ∀ (k : Nat) (l : List UInt8), ((cutL l).length ≤ k + 1 → Lib.splitK [32] 0 k l = cutL l) ∧ (k + 1 < (cutL l).length → (Lib.splitK [32] 0 k l).length = k + 1)
  | 0, l => by
    rcases index_parts l 32 with ⟨h1, h2⟩ | ⟨a, r, rfl, h2, h3⟩
    · have e := cut_none l [] h2
      unfold cutL
      rw [e]
      simp [Lib.splitK]
    · have e := cut_hit a [] r h2
      have := cut_len r []
      unfold cutL
      rw [e]
      simp only [List.length_cons]
      exact ⟨fun h => by omega, fun _ => rfl⟩
  | k + 1, l => by
    rcases index_parts l 32 with ⟨h1, h2⟩ | ⟨a, r, rfl, h2, h3⟩
    · have e := cut_none l [] h2
      unfold cutL
      rw [e, Lib.splitK, Lib.index_one, h1, if_pos (by decide)]
      simp
    · have e := cut_hit a [] r h2
      obtain ⟨i1, i2⟩ := split_cut k r
      unfold cutL at i1 i2 ⊢
      rw [e, Lib.splitK, Lib.index_one, h3, if_neg (by simp)]
      have e1 : (a ++ 32 :: r).take (((a.length : Nat) : Int).toNat + 0) = a := by simp
      have e2 : (a ++ 32 :: r).drop (((a.length : Nat) : Int).toNat + [(32 : UInt8)].length) = r := by
        rw [show ((a.length : Nat) : Int).toNat + [(32 : UInt8)].length = a.length + 1 by simp, ← List.drop_drop]
        simp
      rw [e1, e2]
      simp only [List.length_cons, List.nil_append]
      exact ⟨fun h => by rw [i1 (by omega)], fun h => by rw [i2 (by omega)]⟩
/-- What strings.SplitN gives: all parts, or four where there are more. -/
def spcB : ByteArray := { data := #[32] }
def partsB (s : ByteArray) : List ByteArray := Lib.splitB spcB 0 (min 4 (s.size + 1) - 1) s
theorem parts_cut (s : ByteArray) : (partsB s).map (fun x => x.data.toList) = cutL s.data.toList ∨ ((partsB s).length = 4 ∧ 4 < (cutL s.data.toList).length) := by
  have hd := Lib.splitB_data spcB 0 (min 4 (s.size + 1) - 1) s
  have hb : spcB.data.toList = [32] := rfl
  rw [hb] at hd
  have hl := len_size s
  have hc := cut_len s.data.toList []
  obtain ⟨i1, i2⟩ := split_cut (min 4 (s.size + 1) - 1) s.data.toList
  by_cases h : (cutL s.data.toList).length ≤ min 4 (s.size + 1) - 1 + 1
  · left
    rw [← i1 h]
    exact hd
  · right
    have h4 := i2 (by omega)
    rw [← hd, List.length_map] at h4
    unfold cutL at h ⊢
    have e : min 4 (s.size + 1) = 4 := by omega
    rw [e] at h
    refine ⟨?_, by omega⟩
    have : (partsB s).length = min 4 (s.size + 1) - 1 + 1 := h4
    omega
end Go.Proofs.YtgnpffkfbacejaaGreatDoor.M
namespace Go.Proofs.YtgnpffkfbacejaaGreatDoor.Image
open Go.ChangeShapes Go.WideShapes Go.ChangeAt Go.RowKit
open Go.Proofs.YtgnpffkfbacejaaGreatDoor.M
set_option linter.unusedVariables false

/-- The table of powers of ten is there, and the error of a text that is no number is some error's value. -/
def Has (w : World) : Prop :=
  (4 < w.heap.size ∧ ∀ nm : String, Tryz.prog.globalNamed nm = some 4 → w.var? Tryz.prog nm = some (Lib.pow10Tab.map fun z => Value.int .u64 z).toArray) ∧
    ∃ tp p, w.cell? ⟨2, 0, none⟩ = some (.iface tp p)
theorem Has.below {w w' : World} (h : Has w) (hb : Below w.heap.size w w') : Has w' := by
  obtain ⟨⟨h1, h2⟩, tp, p, h3⟩ := h
  refine ⟨⟨Nat.lt_of_lt_of_le h1 hb.size, fun nm hg => var?_below hb hg h1 (h2 nm hg)⟩, tp, p, ?_⟩
  rw [hb.cell (p := ⟨2, 0, none⟩) (World.block_lt_of_cell? w _ h3)]
  exact h3

theorem itoa_any (n : Int) (w : World) (h0 : -9223372036854775808 ≤ n) (h1 : n ≤ 9223372036854775807) (hh : Has w) :
    Calls Tryz.prog 47 #[.int .i64 n] w fun e w' => e = .returned (.string { data := (Lib.itoa n).toArray }) ∧ Below w.heap.size w w' :=
  (Any.strconv_Itoa Tryz.lays171 n h0 h1 w (hh.1.2 _ (by kernel_rfl))).mono fun _ _ ⟨he, k, os, hw⟩ => ⟨he, by
    rw [hw]
    exact ⟨rfl, rfl, rfl, by show w.heap.size ≤ (w.heap ++ os).size; rw [Array.size_append]; omega, fun j hj => by show (w.heap ++ os)[j]? = w.heap[j]?; rw [Array.getElem?_append_left hj]⟩⟩
theorem atoi_some (s : ByteArray) (n : Int) (w : World) (hl : s.size ≤ 18) (h : Lib.atoi s.data.toList = some n) :
    Calls Tryz.prog 52 #[.string s] w fun e w' => e = .returned (.tuple #[.int .i64 n, .nilIface]) ∧ Below w.heap.size w w' :=
  (Any.strconv_Atoi (ρ := Tryz.lays172_ren) { Tryz.lays172 with } s n hl h w).mono fun _ _ ⟨he, t, hw⟩ => ⟨he, by rw [hw]; exact Lib.bytesWorld_below _ _ _⟩
theorem atoi_none (s : ByteArray) (w : World) (hl : s.size ≤ 18) (h : Lib.atoi s.data.toList = none) (hh : Has w) :
    Calls Tryz.prog 52 #[.string s] w fun e w' => (∃ (T : TypeId) (a : Addr), e = .returned (.tuple #[.int .i64 0, .iface T (.pointer (some a))])) ∧ Below w.heap.size w w' := by
  obtain ⟨_, tp, p, h3⟩ := hh
  exact (Any.strconv_Atoi_err Tryz.lays172 s hl h (.iface tp p) w h3 (Or.inr ⟨tp, p, rfl⟩)).mono fun _ _ ⟨N, he, _, _, hb⟩ => ⟨⟨_, _, he⟩, hb⟩
theorem clone_any (s : ByteArray) (w : World) (hl : s.size ≤ 140737488351232) :
    Calls Tryz.prog 48 #[.string s] w fun e w' => e = .returned (.string s) ∧ Below w.heap.size w w' := by
  go_enter Tryz.func48, Tryz.ntmps48
  go_wp2_with (go_at_call 71; refine (Any.stringslite_Clone Tryz.lays316 s _ ?_).mono ?_; omega; rintro e w' ⟨rfl, hb⟩)
  go_ret
  exact ⟨rfl, hb⟩
end Go.Proofs.YtgnpffkfbacejaaGreatDoor.Image
namespace Go.Proofs.YtgnpffkfbacejaaGreatDoor.Log
open Go.ChangeShapes Go.WideShapes Go.ChangeAt Go.RowKit
open Go.Proofs.YtgnpffkfbacejaaGreatDoor.M
set_option linter.unusedVariables false

/-- An int that a machine has. -/
theorem hi_of {n : Int} (h : (Lit.int .i64 n).wf = true) : n ≤ 9223372036854775807 := by
  simp [Lit.wf, IntKind.min, IntKind.max, IntKind.bits, IntKind.signed] at h
  omega
structure Core (Lg : World → Nat → Value → (Nat → Prop) → LS → Prop) : Prop where
  has : ∀ {W : World} {B : Nat} {p : Value} {S : Nat → Prop} {j : LS}, Lg W B p S j → ∀ b, S b → B ≤ b ∧ b < W.heap.size
  only : ∀ {W W' : World} {B : Nat} {p : Value} {S T : Nat → Prop} {j : LS}, Lg W B p S j → Only T W W' → (∀ b, S b → ¬ T b) → Lg W' B p S j
  ok : ∀ {W : World} {B : Nat} {p : Value} {S : Nat → Prop} {j : LS}, Lg W B p S j → OkL j
  new : ∀ (w : World) (B : Nat), B ≤ w.heap.size → Calls Tryz.prog 5 #[] w fun e w' => ∃ p S, e = .returned p ∧ Lg w' B p S newL ∧ (∀ b, S b → w.heap.size ≤ b) ∧ Below w.heap.size w w'
theorem Core.below {Lg : World → Nat → Value → (Nat → Prop) → LS → Prop} (L : Core Lg) {W W' : World} {B : Nat} {p : Value} {S : Nat → Prop} {j : LS} (h : Lg W B p S j) (hb : Below W.heap.size W W') : Lg W' B p S j :=
  L.only h (Only.of_below (S := fun _ => False) hb) (fun _ _ hf => hf)
/-- What Raise does; n: how many bytes the record has. -/
def RaiseLaw (Lg : World → Nat → Value → (Nat → Prop) → LS → Prop) : Prop :=
  ∀ (p : Value) (S : Nat → Prop) (j : LS) (nm : ByteArray) (v : Int) (w : World) (B : Nat), Lg w B p S j → nm.size ≤ 140737488351232 → Image.Has w → B ≤ w.heap.size →
    Calls Tryz.prog 6 #[p, .string nm, .int .i64 v] w fun e w' => ∃ S' n, 2 ≤ n ∧ n ≤ 1000 ∧ e = .returned (.tuple #[.bool (lraB j nm v), errV 63 (lraE j nm v)]) ∧ Lg w' B p S' (lraT j nm v n) ∧ Only S w w' ∧ (∀ b, S' b → S b ∨ w.heap.size ≤ b)
/-- What Sync does. -/
def SyncLaw (Lg : World → Nat → Value → (Nat → Prop) → LS → Prop) : Prop :=
  ∀ (p : Value) (S : Nat → Prop) (j : LS) (w : World) (B : Nat), Lg w B p S j → B ≤ w.heap.size →
    Calls Tryz.prog 7 #[p] w fun e w' => ∃ S', e = .returned (errV 63 (synE j)) ∧ Lg w' B p S' (synT j) ∧ Only S w w' ∧ (∀ b, S' b → S b ∨ w.heap.size ≤ b)
/-- What Fail does. -/
def FailLaw (Lg : World → Nat → Value → (Nat → Prop) → LS → Prop) : Prop :=
  ∀ (p : Value) (S : Nat → Prop) (j : LS) (n : Int) (w : World) (B : Nat), Lg w B p S j → n ≤ 9223372036854775807 → B ≤ w.heap.size →
    Calls Tryz.prog 12 #[p, .int .i64 n] w fun e w' => ∃ S', e = .returned (.tuple #[]) ∧ Lg w' B p S' (faiT j n) ∧ Only S w w' ∧ (∀ b, S' b → S b ∨ w.heap.size ≤ b)
/-- What Crash does. -/
def CrashLaw (Lg : World → Nat → Value → (Nat → Prop) → LS → Prop) : Prop :=
  ∀ (p : Value) (S : Nat → Prop) (j : LS) (n : Int) (w : World) (B : Nat), Lg w B p S j → B ≤ w.heap.size →
    Calls Tryz.prog 8 #[p, .int .i64 n] w fun e w' => ∃ S', e = .returned (.tuple #[]) ∧ Lg w' B p S' (craT j n) ∧ Only S w w' ∧ (∀ b, S' b → S b ∨ w.heap.size ≤ b)
/-- What Least, Bytes and Safe tell. -/
def LeastLaw (Lg : World → Nat → Value → (Nat → Prop) → LS → Prop) : Prop :=
  ∀ (p : Value) (S : Nat → Prop) (j : LS) (nm : ByteArray) (w : World) (B : Nat), Lg w B p S j → nm.size ≤ 140737488351232 →
    Calls Tryz.prog 9 #[p, .string nm] w fun e w' => e = .returned (.tuple #[.int .i64 (leaV j.f nm), errV 63 (leaE nm)]) ∧ Below w.heap.size w w'
def BytesLaw (Lg : World → Nat → Value → (Nat → Prop) → LS → Prop) : Prop :=
  ∀ (p : Value) (S : Nat → Prop) (j : LS) (w : World) (B : Nat), Lg w B p S j →
    Calls Tryz.prog 10 #[p] w fun e w' => e = .returned (.int .i64 j.bytes) ∧ Below w.heap.size w w'
def SafeLaw (Lg : World → Nat → Value → (Nat → Prop) → LS → Prop) : Prop :=
  ∀ (p : Value) (S : Nat → Prop) (j : LS) (w : World) (B : Nat), Lg w B p S j →
    Calls Tryz.prog 11 #[p] w fun e w' => e = .returned (.int .i64 j.safe) ∧ Below w.heap.size w w'
end Go.Proofs.YtgnpffkfbacejaaGreatDoor.Log
namespace Go.Proofs.YtgnpffkfbacejaaGreatDoor.M
open Go.RowKit Go.ChangeShapes Go.WideShapes Go.ChangeAt

section
variable {α : Type} {n : Nat} {cv : α → List Value}

/-- A slice of records that stand in memory: none at all, or rows of cells from one address on. -/
def RRow (n : Nat) (cv : α → List Value) (w : World) (a : Option Addr) (xs : List α) : Prop :=
  xs = [] ∨ ∃ b off, a = some ⟨b, off, none⟩ ∧ ∀ (k : Nat) (x : α), xs[k]? = some x → ∀ (j : Nat) (v : Value), (cv x)[j]? = some v → w.cell? ⟨b, off + k * n + j, none⟩ = some v
theorem RRow.nil (w : World) (a : Option Addr) : RRow n cv w a [] := Or.inl rfl
theorem RRow.below {w w' : World} {a : Option Addr} {xs : List α} (h : RRow n cv w a xs) (hb : Below w.heap.size w w') : RRow n cv w' a xs := by
  rcases h with h | ⟨b, off, ha, hc⟩
  · exact Or.inl h
  · refine Or.inr ⟨b, off, ha, fun k x hx j v hv => ?_⟩
    have h1 := hc k x hx j v hv
    rw [hb.cell (p := ⟨b, off + k * n + j, none⟩) (World.block_lt_of_cell? w _ h1)]
    exact h1
theorem RRow.take {w : World} {a : Option Addr} {xs : List α} (h : RRow n cv w a xs) (k : Nat) : RRow n cv w a (xs.take k) := by
  rcases h with h | ⟨b, off, ha, hc⟩
  · exact Or.inl (by rw [h]; simp)
  · refine Or.inr ⟨b, off, ha, fun i x hx => hc i x ?_⟩
    rw [List.getElem?_take] at hx
    split at hx
    · exact hx
    · cases hx
theorem RRow.drop {w : World} {b off : Nat} {xs : List α} (h : RRow n cv w (some ⟨b, off, none⟩) xs) (k : Nat) : RRow n cv w (some ⟨b, off + k * n, none⟩) (xs.drop k) := by
  rcases h with h | ⟨b', off', ha, hc⟩
  · exact Or.inl (by rw [h]; simp)
  · cases ha
    refine Or.inr ⟨b, off + k * n, rfl, fun i x hx j v hv => ?_⟩
    rw [List.getElem?_drop] at hx
    have := hc (k + i) x hx j v hv
    rw [Nat.add_mul, ← Nat.add_assoc] at this
    exact this
theorem RRow.dropO {w : World} {a : Option Addr} {xs : List α} (h : RRow n cv w a xs) (k : Nat) : RRow n cv w (a.map (fun x => x.add (k * n))) (xs.drop k) := by
  have h0 := h
  rcases h with h | ⟨b, off, ha, hc⟩
  · exact Or.inl (by rw [h]; simp)
  · subst ha
    have := RRow.drop h0 k
    rw [Option.map_some, add_none]
    exact this
/-- The address of a row that is none of none. -/
theorem RRow.at {w : World} {a : Option Addr} {xs : List α} {k : Nat} {x : α} (h : RRow n cv w a xs) (hx : xs[k]? = some x) :
    ∃ b off, a = some ⟨b, off, none⟩ ∧ ∀ (j : Nat) (v : Value), (cv x)[j]? = some v → w.cell? ⟨b, off + k * n + j, none⟩ = some v := by
  rcases h with h | ⟨b, off, ha, hc⟩
  · rw [h] at hx; simp at hx
  · exact ⟨b, off, ha, hc k x hx⟩

/-- A row of records that the call itself made. -/
def OwnR (n : Nat) (cv : α → List Value) (w : World) (base : Nat) (e : TypeId) (v : Value) (xs : List α) : Prop := w.ownsRow base e n v xs.length (xs.flatMap cv)
theorem OwnR.nil (w : World) (base : Nat) (e : TypeId) : OwnR n cv w base e (.slice none 0 0) [] := World.ownsRow_nil w base e n
theorem OwnR.alloc {w : World} {base : Nat} {e : TypeId} {v : Value} {xs : List α} (h : OwnR n cv w base e v xs) (o : Obj) : OwnR n cv (w.alloc o) base e v xs := World.ownsRow.alloc h o
theorem OwnR.block {w : World} {base : Nat} {e : TypeId} {v : Value} {xs : List α} (h : OwnR n cv w base e v xs) : ∀ k, v.ownBlock = some k → base ≤ k := fun k hk => (World.ownsRow.lt h k hk).1
theorem OwnR.below {w w' : World} {base : Nat} {e : TypeId} {v : Value} {xs : List α} (h : OwnR n cv w base e v xs) (hb : Below w.heap.size w w') : OwnR n cv w' base e v xs := by
  refine ⟨h.1, ?_⟩
  rcases h.2 with h2 | ⟨g, cap, cur, h1, h2, h3, h4⟩
  · exact Or.inl h2
  · exact Or.inr ⟨g, cap, cur, h1, h2, blk_below h3 hb, h4⟩
theorem flat_at (hl : ∀ x, (cv x).length = n) : ∀ (xs : List α) (k : Nat) (x : α), xs[k]? = some x → ∀ (j : Nat), j < n → (xs.flatMap cv)[k * n + j]? = (cv x)[j]?
  | [], k, x, hx, j, hj => by simp at hx
  | y :: r, 0, x, hx, j, hj => by
    simp at hx
    subst hx
    rw [List.flatMap_cons, Nat.zero_mul, Nat.zero_add, List.getElem?_append_left (by rw [hl]; exact hj)]
  | y :: r, k + 1, x, hx, j, hj => by
    rw [List.flatMap_cons, List.getElem?_append_right (by rw [hl, Nat.succ_mul]; omega), hl, show (k + 1) * n + j - n = k * n + j by rw [Nat.succ_mul]; omega]
    exact flat_at hl r k x (by simpa using hx) j hj
theorem OwnR.row {w : World} {base : Nat} {e : TypeId} {v : Value} {xs : List α} (hl : ∀ x, (cv x).length = n) (h : OwnR n cv w base e v xs) : ∃ a cap, v = .slice a xs.length cap ∧ (a = none → cap = 0) ∧ RRow n cv w a xs := by
  have h0 := h
  obtain ⟨_, h2⟩ := h
  rcases h2 with ⟨hv, hn⟩ | ⟨g, cap, cur, hv, _, _, _, _, _, _⟩
  · exact ⟨none, 0, by rw [hv, hn], fun _ => rfl, Or.inl (List.length_eq_zero_iff.1 hn)⟩
  · refine ⟨some ⟨g, 0, none⟩, cap, hv, fun hno => (by cases hno), Or.inr ⟨g, 0, rfl, fun k x hx j u hu => ?_⟩⟩
    have hj : j < n := by have := (List.getElem?_eq_some_iff.1 hu).1; rw [hl] at this; exact this
    have hc := World.ownsRow.cells (g := g) h0 (by rw [hv]; rfl) (k * n + j) u (by rw [flat_at hl xs k x hx j hj]; exact hu)
    rw [add_none] at hc
    rw [Nat.zero_add] at hc ⊢
    exact hc

/-- 'x = append(x, y)' where x is a row of records of the call's own: a law for the walk. -/
theorem wpList_appR {P : Program} {w : World} {ops : Array Oper} {rest : List Oper} {o : Oper} {a : Act} {Q : Exit → Act → World → Prop} (hgd : o.guard = none) (s x : Operand) (t : TypeId)
    (ho : o.op = .call { callee := .builtin .append, args := #[s, x], argTypes := #[t, t] })
    (base : Nat) (e : TypeId) (z : Value) (bytes : Nat) (hinfo : (P.info? e).map (fun i => (i.zero, i.size, i.bytes)) = some (some z, n, bytes)) (hz : z.cells.size = n) (hn : 0 < n) (hby : bytes ≤ 1000000) (ht : P.underlying t = some (.slice e))
    (hl : ∀ x, (cv x).length = n) (h1 : ∀ x, ∀ u ∈ cv x, u.oneCell' = true)
    (v : Value) (xs : List α) (hs : a.eval s = v) (hown : OwnR n cv w base e v xs)
    (b : Nat) (y : α) (hx : a.eval x = .slice (some ⟨b, 0, none⟩) 1 1) (hcell : ∀ (j : Nat) (u : Value), (cv y)[j]? = some u → w.cell? ⟨b, j, none⟩ = some u)
    (hb : xs.length ≤ 1000000) (hbase : base ≤ w.heap.size)
    (h : ∀ v' w', OwnR n cv w' base e v' (xs ++ [y]) → w.grownBy w' v.ownBlock → wpList P ops Q rest (a.put o.dst v') w') : wpList P ops Q (o :: rest) a w := by
  obtain ⟨i, hi, hz0, hz1, hz2⟩ := info_parts hinfo
  have hbb : (xs.length + 1) * bytes ≤ 140737488355328 := Nat.le_trans (Nat.mul_le_mul (Nat.succ_le_succ hb) hby) (by omega)
  refine wpList_append_own w hgd s x t ho base e i z n bytes ht hi hz0 hz1 hz2 hz hn v xs.length _ hs hown ⟨b, 0, none⟩ 1 1 (cv y) hx (by rw [hl, Nat.one_mul]) ?_ (h1 y) (by unfold maxLen; omega) hbb hbase ?_
  · intro j u hj
    rw [add_none, Nat.zero_add]
    exact hcell j u hj
  · intro v' w' h2 h3 _
    refine h v' w' ?_ h3
    unfold OwnR
    rw [List.length_append, List.flatMap_append, List.flatMap_singleton]
    exact h2
theorem flat_len (hl : ∀ x, (cv x).length = n) : ∀ xs : List α, (xs.flatMap cv).length = xs.length * n
  | [] => by simp
  | x :: r => by rw [List.flatMap_cons, List.length_append, hl, flat_len hl r, List.length_cons, Nat.succ_mul]; omega
/-- 'x = append(x, ys...)' where x is a row of records of the call's own and ys can be read: a law for the walk. -/
theorem wpList_appRs {P : Program} {w : World} {ops : Array Oper} {rest : List Oper} {o : Oper} {a : Act} {Q : Exit → Act → World → Prop} (hgd : o.guard = none) (s x : Operand) (t : TypeId)
    (ho : o.op = .call { callee := .builtin .append, args := #[s, x], argTypes := #[t, t] })
    (base : Nat) (e : TypeId) (z : Value) (bytes : Nat) (hinfo : (P.info? e).map (fun i => (i.zero, i.size, i.bytes)) = some (some z, n, bytes)) (hz : z.cells.size = n) (hn : 0 < n) (hby : bytes ≤ 1000000) (ht : P.underlying t = some (.slice e))
    (hl : ∀ x, (cv x).length = n) (v : Value) (xs : List α) (hs : a.eval s = v) (hown : OwnR n cv w base e v xs)
    (ad : Option Addr) (m c : Nat) (ys : List α) (hx : a.eval x = .slice ad m c) (hm : m = ys.length) (hc : ad = none → c = 0) (hrow : RRow n cv w ad ys) (h1 : ∀ y ∈ ys, ∀ u ∈ cv y, u.oneCell' = true)
    (hb : xs.length + ys.length ≤ 1000000) (hbase : base ≤ w.heap.size)
    (h : ∀ v' w', OwnR n cv w' base e v' (xs ++ ys) → w.grownBy w' v.ownBlock → wpList P ops Q rest (a.put o.dst v') w') : wpList P ops Q (o :: rest) a w := by
  obtain ⟨i, hi, hz0, hz1, hz2⟩ := info_parts hinfo
  subst hm
  cases ad with
  | none =>
    have hy : ys = [] := by
      rcases hrow with h | ⟨b, off, h, _⟩
      · exact h
      · cases h
    subst hy
    rw [hc rfl] at hx
    exact wpList_append_own_none hgd s x t ho base e i n ht hi v xs.length _ hs hown hx (h v w (by simpa using hown) ⟨rfl, rfl, rfl, Nat.le_refl _, fun _ _ _ => rfl⟩)
  | some ad =>
    have hbb : (xs.length + ys.length) * bytes ≤ 140737488355328 := Nat.le_trans (Nat.mul_le_mul hb hby) (by omega)
    refine wpList_append_own w hgd s x t ho base e i z n bytes ht hi hz0 hz1 hz2 hz hn v xs.length _ hs hown ad ys.length c (ys.flatMap cv) hx (flat_len hl ys) ?_ ?_ (by unfold maxLen; omega) hbb hbase ?_
    · intro j u hj
      rcases hrow with h | ⟨b, off, h, hcell⟩
      · subst h; simp at hj
      · cases h
        have hlt : j < ys.length * n := by have := (List.getElem?_eq_some_iff.1 hj).1; rw [flat_len hl] at this; exact this
        have hk : j / n < ys.length := Nat.div_lt_of_lt_mul (by rw [Nat.mul_comm]; exact hlt)
        have hyk := List.getElem?_eq_getElem hk
        have e1 : j / n * n + j % n = j := by rw [Nat.mul_comm]; exact Nat.div_add_mod j n
        have e2 := flat_at hl ys (j / n) _ hyk (j % n) (Nat.mod_lt _ hn)
        rw [e1, hj] at e2
        have := hcell (j / n) _ hyk (j % n) u e2.symm
        rw [Nat.add_assoc, e1] at this
        rw [add_none]
        exact this
    · intro u hu
      obtain ⟨y, hy, hu2⟩ := List.mem_flatMap.1 hu
      exact h1 y hy u hu2
    · intro v' w' h2 h3 _
      refine h v' w' ?_ h3
      unfold OwnR
      rw [List.length_append, List.flatMap_append]
      exact h2
end

/-- How a slice of records among the arguments reads, opened, where each record's cells are known of its own reading. -/
theorem open_recsQ {α : Type} {Q : α → Prop} {n : Nat} {cv : α → List Value} {H : Type} {enc : TypeId × Value → H} {P : Program} {W : World} {b0 : Nat} {sp : Nat → Bool} {hd : Bool} {t e : TypeId} {a : Option Addr} {len cap : Nat} {d : DataW H} {ps : List MemPlace}
    (hu : P.underlying t = some (.slice e)) (hce : P.cellsOf e = n) (hn : 0 < n) (hel : ∀ (fuel : Nat) (cs : List Value) (x : DataW H × List MemPlace), DataW.trod enc P W b0 sp hd fuel e cs = some x → ∃ r : α, cs = cv r ∧ Q r)
    (h : DataW.Trod enc P W b0 sp hd t (.slice a len cap) d ps) :
    ∃ xs : List α, len = xs.length ∧ len ≤ maxLen ∧ len ≤ cap ∧ cap ≤ maxLen ∧ (a = none → cap = 0) ∧ (∀ ad, a = some ad → 0 < len → ad.spot = none) ∧ RRow n cv W a xs ∧ ∀ r ∈ xs, Q r := by
  obtain ⟨fuel, hf⟩ := h
  rcases DataW.trod_slice hu hf with ⟨hcs, _⟩ | ⟨x, l, c, elems, rest, m, _, hcs, _, hb, hlc, hm, hlen, hat, _, _⟩
  · simp [Value.cells] at hcs
    obtain ⟨rfl, rfl, rfl⟩ := hcs
    exact ⟨[], rfl, by unfold maxLen; omega, Nat.le_refl _, by unfold maxLen; omega, fun _ => rfl, fun ad h => (by cases h), Or.inl rfl, fun r h => by simp at h⟩
  · simp [Value.cells] at hcs
    obtain ⟨rfl, rfl, rfl⟩ := hcs
    rw [hce] at hat
    have hex : ∀ i, i < len → ∃ r : α, W.cells? b0 (x.add (i * n)) n = some (cv r) ∧ Q r := by
      intro i hi
      have h1 := hat i hi
      rw [List.getElem?_eq_getElem (by omega), Option.bind_eq_some_iff] at h1
      obtain ⟨cs, h2, h3⟩ := h1
      obtain ⟨r, rfl, hq⟩ := hel _ _ _ h3
      exact ⟨r, h2, hq⟩
    have hls : ∀ k, k ≤ len → ∃ xs : List α, xs.length = k ∧ ∀ (i : Nat) (r : α), xs[i]? = some r → W.cells? b0 (x.add (i * n)) n = some (cv r) ∧ Q r := by
      intro k
      induction k with
      | zero => exact fun _ => ⟨[], rfl, fun i r h => by simp at h⟩
      | succ k ih =>
        intro hk
        obtain ⟨xs, h1, h2⟩ := ih (by omega)
        obtain ⟨r, hr⟩ := hex k (by omega)
        refine ⟨xs ++ [r], by simp [h1], fun i q hq => ?_⟩
        by_cases hi : i < xs.length
        · rw [List.getElem?_append_left hi] at hq; exact h2 i q hq
        · rw [List.getElem?_append_right (by omega)] at hq
          by_cases he : i - xs.length = 0
          · rw [he] at hq
            simp at hq
            subst hq
            rw [show i = k by omega]
            exact hr
          · rw [List.getElem?_eq_none (by simp; omega)] at hq
            cases hq
    obtain ⟨xs, hx1, hx2⟩ := hls len (Nat.le_refl _)
    have hspot : 0 < len → x.spot = none := by
      intro h0
      obtain ⟨r, hr, _⟩ := hex 0 h0
      have hc := World.cells?_some hr
      have h1 := hc.2.2 0 hn
      have hlt : 0 < (cv r).length := by have := hc.2.1; omega
      rw [List.getElem?_eq_getElem hlt] at h1
      have h2 := World.cell?_spot h1
      obtain ⟨bb, oo, ss⟩ := x
      cases ss with
      | none => rfl
      | some q => simp [Addr.add] at h2
    refine ⟨xs, hx1.symm, by omega, hlc, hm, fun hno => (by cases hno), fun ad had h0 => (by cases had; exact hspot h0), ?_, fun r hr => (by obtain ⟨i, hi⟩ := List.getElem?_of_mem hr; exact (hx2 i r hi).2)⟩
    by_cases h0 : len = 0
    · exact Or.inl (List.length_eq_zero_iff.1 (by omega))
    · obtain ⟨b, off, spot⟩ := x
      have hs : spot = none := hspot (by omega)
      subst hs
      refine Or.inr ⟨b, off, rfl, fun k r hr j v hv => ?_⟩
      have hc := World.cells?_some (hx2 k r hr).1
      have hj : j < n := by have := (List.getElem?_eq_some_iff.1 hv).1; have := hc.2.1; omega
      have h1 := hc.2.2 j hj
      rw [add_none, add_none, hv] at h1
      exact h1
theorem open_recs {α : Type} {n : Nat} {cv : α → List Value} {H : Type} {enc : TypeId × Value → H} {P : Program} {W : World} {b0 : Nat} {sp : Nat → Bool} {hd : Bool} {t e : TypeId} {a : Option Addr} {len cap : Nat} {d : DataW H} {ps : List MemPlace}
    (hu : P.underlying t = some (.slice e)) (hce : P.cellsOf e = n) (hn : 0 < n) (hel : ∀ (fuel : Nat) (cs : List Value) (x : DataW H × List MemPlace), DataW.trod enc P W b0 sp hd fuel e cs = some x → ∃ r : α, cs = cv r)
    (h : DataW.Trod enc P W b0 sp hd t (.slice a len cap) d ps) :
    ∃ xs : List α, len = xs.length ∧ len ≤ maxLen ∧ len ≤ cap ∧ cap ≤ maxLen ∧ (a = none → cap = 0) ∧ (∀ ad, a = some ad → 0 < len → ad.spot = none) ∧ RRow n cv W a xs := by
  obtain ⟨xs, h1, h2, h3, h4, h5, h6, h7, _⟩ := open_recsQ (Q := fun _ => True) hu hce hn (fun f cs x hx => by obtain ⟨r, hr⟩ := hel f cs x hx; exact ⟨r, hr, trivial⟩) h
  exact ⟨xs, h1, h2, h3, h4, h5, h6, h7⟩
end Go.Proofs.YtgnpffkfbacejaaGreatDoor.M
namespace Go.Proofs.YtgnpffkfbacejaaGreatDoor.CntRef
open Go.ChangeShapes Go.WideShapes Go.ChangeAt Go.RowKit
open Go.Proofs.YtgnpffkfbacejaaGreatDoor.M
set_option linter.unusedVariables false

theorem let_take {l : List UInt8} {k : Nat} {b : UInt8} (h : l[k]? = some b) : (l.take (k + 1)).all letB = ((l.take k).all letB && letB b) := by
  rw [List.take_add_one, h]
  simp
theorem let_no {l : List UInt8} {k : Nat} {b : UInt8} (h : l[k]? = some b) (hb : letB b = false) : l.all letB = false := by
  apply Bool.eq_false_iff.2
  intro e
  have := List.all_eq_true.1 e b (List.mem_of_getElem? h)
  rw [hb] at this
  cases this
theorem at_some {s : ByteArray} {k : Nat} (h : k < s.size) : s.data.toList[k]? = some s[k] := by
  rw [List.getElem?_eq_getElem (by simpa using h)]; rfl

set_option maxHeartbeats 2000000 in
theorem letters_any (s : ByteArray) (w : World) (hs : s.size ≤ 140737488351232) :
    Calls Tryz.prog 54 #[.string s] w fun e w' => e = .returned (.bool (letS s)) ∧ w' = w := by
  go_enter Tryz.func54, Tryz.ntmps54
  go_wp2
  go_loop [3] (fun i => ∃ k : Nat, k ≤ s.size ∧ i = .int .i64 k ∧ Hid ((s.data.toList.take k).all letB = true)) (fun i => s.size - (intOf i).toNat)
  case atStart => exact ⟨0, by omega, rfl, rfl⟩
  case round =>
    obtain ⟨k, hk, rfl, HL⟩ := hrel
    by_cases hlt : k < s.size
    · have HX : Hid (s.data.toList[k]? = some s[k]) := at_some hlt
      by_cases h1 : (s[k]).toNat < 97
      · have h1z : ((s[k]).toNat : Int) < 97 := by omega
        have E := hide (show letS s = false from let_no HX.out (by unfold letB; simp; omega))
        clear h1
        go_wp2
        go_ret
        exact ⟨by rw [E.out]; rfl, rfl⟩
      · have h1z : ¬ ((s[k]).toNat : Int) < 97 := by omega
        by_cases h2 : 122 < (s[k]).toNat
        · have h2z : (122 : Int) < ((s[k]).toNat : Int) := by omega
          have E := hide (show letS s = false from let_no HX.out (by unfold letB; simp; omega))
          clear h1 h2
          go_wp2
          go_ret
          exact ⟨by rw [E.out]; rfl, rfl⟩
        · have h2z : ¬ (122 : Int) < ((s[k]).toNat : Int) := by omega
          have E := hide (show letB s[k] = true by unfold letB; simp; omega)
          clear h1 h2
          go_wp2
          go_round
          case rel => exact ⟨k + 1, by omega, by go_num, by show (s.data.toList.take (k + 1)).all letB = true; rw [let_take HX.out, HL.out, E.out]; rfl⟩
          case measure => simp [intOf]; omega
    · have E := hide (show letS s = true by
        have := HL.out
        rw [List.take_of_length_le (by rw [len_size]; omega)] at this
        exact this)
      go_wp2
      go_ret
      exact ⟨by rw [E.out]; rfl, rfl⟩
set_option maxHeartbeats 2000000 in
theorem name_any (s : ByteArray) (w : World) (hs : s.size ≤ 140737488351232) :
    Calls Tryz.prog 31 #[.string s] w fun e w' => e = .returned (.bool (nameB s)) ∧ w' = w := by
  have LT := hide (fun W => letters_any s W hs)
  have HNB := hide (show nameB s = (letS s && decide (1 ≤ s.size ∧ s.size ≤ 8)) from rfl)
  cases hl : letS s with
  | false =>
    rw [hl] at LT
    have E := hide (show nameB s = false by rw [HNB.out, hl]; rfl)
    go_enter Tryz.func31, Tryz.ntmps31
    go_wp2_with (fail)
    refine (LT.out _).mono ?_
    rintro e w' ⟨rfl, hw⟩
    rw [hw]
    clear hw
    go_wp2
    go_ret
    exact ⟨by rw [E.out]; rfl, rfl⟩
  | true =>
    rw [hl] at LT
    by_cases h1 : 1 ≤ s.size
    · have h1z : (1 : Int) ≤ s.size := by omega
      by_cases h8 : s.size ≤ 8
      · have h8z : (s.size : Int) ≤ 8 := by omega
        have E := hide (show nameB s = true by rw [HNB.out, hl, decide_eq_true ⟨h1, h8⟩]; rfl)
        clear h1 h8
        go_enter Tryz.func31, Tryz.ntmps31
        go_wp2_with (fail)
        refine (LT.out _).mono ?_
        rintro e w' ⟨rfl, hw⟩
        rw [hw]
        clear hw
        go_wp2
        go_ret
        exact ⟨by rw [E.out]; rfl, rfl⟩
      · have h8z : ¬ (s.size : Int) ≤ 8 := by omega
        have E := hide (show nameB s = false by rw [HNB.out, hl, decide_eq_false (by omega)]; rfl)
        have HDZ := hide (show decide ((s.size : Int) ≤ 8) = false from decide_eq_false h8z)
        clear h1 h8
        go_enter Tryz.func31, Tryz.ntmps31
        go_wp2_with (fail)
        refine (LT.out _).mono ?_
        rintro e w' ⟨rfl, hw⟩
        rw [hw]
        clear hw
        go_wp2
        go_ret
        exact ⟨show Ending.returned (.bool (decide ((s.size : Int) ≤ 8))) = .returned (.bool (nameB s)) by rw [E.out, HDZ.out], rfl⟩
    · have h1z : ¬ (1 : Int) ≤ s.size := by omega
      have E := hide (show nameB s = false by rw [HNB.out, hl, decide_eq_false (by omega)]; rfl)
      clear h1
      go_enter Tryz.func31, Tryz.ntmps31
      go_wp2_with (fail)
      refine (LT.out _).mono ?_
      rintro e w' ⟨rfl, hw⟩
      rw [hw]
      clear hw
      go_wp2
      go_ret
      exact ⟨by rw [E.out]; rfl, rfl⟩
/-- A record of a name and its least version; the first of a name. -/
def lstV (c : ByteArray × Int) : List Value := [.string c.1, .int .i64 c.2]
theorem lstV_len (c : ByteArray × Int) : (lstV c).length = 2 := rfl
def ofC : List (ByteArray × Int) → ByteArray → Int
  | [], _ => 0
  | c :: r, s => if c.1 = s then c.2 else ofC r s
/-- The reference's counts in memory: the first cell of a block that has others too. -/
def CIx (rs : List Value) (T : TypeId) (W : World) (B g : Nat) (v : Value) (cs : List (ByteArray × Int)) : Prop :=
  W.heap[g]? = some (.cells (v :: rs).toArray T) ∧ OwnR 2 lstV W B 74 v cs ∧ v.ownBlock ≠ some g ∧ B ≤ g ∧ cs.length ≤ 12 ∧ (∀ c ∈ cs, 0 < c.2) ∧ (∀ c ∈ cs, c.1.size ≤ 8)
/-- And in a block of their own. -/
abbrev CIs (W : World) (B g : Nat) (v : Value) (cs : List (ByteArray × Int)) : Prop := CIx [] 38 W B g v cs
theorem one_cell {w : World} {b : Nat} {x : Value} {rs : List Value} {t : TypeId} {fr : Nat × Nat} (h : w.heap[b]? = some (.cells (x :: rs).toArray t fr)) : w.cell? ⟨b, 0, none⟩ = some x := by rw [cell_of_row w b _ _ t fr h]; rfl
theorem ofC_skip {s : ByteArray} : ∀ {cs : List (ByteArray × Int)} {k : Nat}, (∀ (j : Nat) (c : ByteArray × Int), j < k → cs[j]? = some c → c.1 ≠ s) → ofC cs s = ofC (cs.drop k) s
  | [], k, _ => by simp
  | c :: r, 0, _ => rfl
  | c :: r, k + 1, h => by
    have h0 := h 0 c (by omega) rfl
    have ih := ofC_skip (s := s) (cs := r) (k := k) (fun j d hj hd => h (j + 1) d (by omega) (by simpa using hd))
    rw [ofC, if_neg h0, ih]
    rfl
theorem byte_ext {s t : ByteArray} (h : s.data.toList = t.data.toList) : s = t := by
  cases s; cases t
  congr 1
  exact Array.ext' h
theorem str_ne {s t : ByteArray} (h : ¬ s = t) : (s.toList == t.toList) = false := by
  rw [Lib.toList_data, Lib.toList_data]
  apply beq_eq_false_iff_ne.2
  exact fun e => h (byte_ext e)
set_option maxHeartbeats 2000000 in
theorem of_any {rs : List Value} {T : TypeId} (g : Nat) (v : Value) (cs : List (ByteArray × Int)) (s : ByteArray) (w : World) (B : Nat) (h : CIx rs T w B g v cs) :
    Calls Tryz.prog 32 #[.pointer (some ⟨g, 0, none⟩), .string s] w fun e w' => e = .returned (.int .i64 (ofC cs s)) ∧ w' = w := by
  obtain ⟨h1, h2, _, _, h5, _⟩ := h
  obtain ⟨a, cap, rfl, _, hr⟩ := h2.row lstV_len
  have r0 := one_cell h1
  have HR := hide hr
  clear h1 h2 hr
  go_enter Tryz.func32, Tryz.ntmps32
  go_wp2
  go_loop [5] (fun s5 => ∃ k : Nat, k ≤ cs.length ∧ s5 = .int .i64 k ∧ Hid (∀ (j : Nat) (c : ByteArray × Int), j < k → cs[j]? = some c → c.1 ≠ s)) (fun s5 => cs.length - (intOf s5).toNat)
  case atStart => exact ⟨0, by omega, rfl, (fun j c hj => by omega : ∀ (j : Nat) (c : ByteArray × Int), j < 0 → cs[j]? = some c → c.1 ≠ s)⟩
  case round =>
    obtain ⟨k, hk, rfl, HS⟩ := hrel
    have HSK := hide (ofC_skip HS.out)
    by_cases hlt : k < cs.length
    · have hlz : (k : Int) < cs.length := by omega
      obtain ⟨⟨nm, m⟩, hc⟩ : ∃ c, cs[k]? = some c := ⟨cs[k]'hlt, List.getElem?_eq_getElem hlt⟩
      obtain ⟨b, off, rfl, hcell⟩ := HR.out.at hc
      have c0 := hcell 0 (.string nm) rfl
      have c1 := hcell 1 (.int .i64 m) rfl
      have HC := hide hc
      have HD := hide (show cs.drop k = (nm, m) :: cs.drop (k + 1) by
        obtain ⟨h1, h2⟩ := List.getElem?_eq_some_iff.1 hc
        rw [List.drop_eq_getElem_cons h1, h2])
      clear hc hcell
      simp only [Nat.add_zero] at c0
      by_cases he : nm = s
      · subst he
        have E := hide (show ofC cs nm = m by rw [HSK.out, HD.out, ofC, if_pos rfl])
        go_wp2
        go_ret
        exact ⟨by rw [E.out]; rfl, rfl⟩
      · have HS2 := hide (show ∀ (j : Nat) (c : ByteArray × Int), j < k + 1 → cs[j]? = some c → c.1 ≠ s from fun j c hj hjc => by
          by_cases e : j = k
          · subst e; rw [HC.out] at hjc; cases hjc; exact he
          · exact HS.out j c (by omega) hjc)
        have hq2 := str_ne he
        go_wp2
        go_round
        case rel => exact ⟨k + 1, by omega, by go_num, HS2.out⟩
        case measure => simp [intOf]; omega
    · have hlz : ¬ (k : Int) < cs.length := by omega
      have E := hide (show ofC cs s = 0 by rw [HSK.out, List.drop_eq_nil_of_le (by omega)]; rfl)
      go_wp2
      go_ret
      exact ⟨by rw [E.out]; rfl, rfl⟩
end Go.Proofs.YtgnpffkfbacejaaGreatDoor.CntRef
