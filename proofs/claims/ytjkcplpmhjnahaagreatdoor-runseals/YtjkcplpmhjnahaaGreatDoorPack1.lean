/-
  Several texts in one: Plain mathematics on measures: one step modulo 1000003, a row of numbers taken step by step, a text taken byte by byte; nothing of the program stands here. / Plain laws, over any program, on rows of ints in memory: one that can be read, one that the call itself made, and what append makes of the latter; what string of one byte is. / Plain facts on blocks of memory, over any program: what a block held it holds, and a row of three ints laid in a block of its own. / Plain mathematics on banks of registers: a bank's cells, which registers a mask asks for, a bank's fault, what is extended, a digest, and whether two banks are alike; and what memory holds of a bank that was laid in a block. / Plain mathematics on images: which texts are of letters alone, what is wrong with an image, and that a search by runes for what is no letter finds one just where a byte is none. / The library's functions that the program reaches (strconv.Itoa, strconv.Atoi, stringslite.Clone, strings.Index, strings.ContainsFunc, bytes.IndexByte, stringslite.Index), held body by body against those of which the shelf's contracts speak. / Contracts of package measure's functions (step, isMeasure, Two, row, All, Of) over this translation: what each returns, and that memory stays as it was. / Contracts of package image's isLetters, IsVersion and Check: whether a text is of letters alone, and what is wrong with an image; memory that was there stays as it was. / Plain mathematics on texts: which texts are numbers of at most four digits and that they are just those that are printed, and how a text is cut at blanks, whole or as far as four parts. / What the library's variables hold that strconv reads, and contracts of strconv.Itoa, strconv.Atoi and strings.Clone as the program calls them, over the shelf's; memory that was there stays as it was. / Contracts of package image's Print, Measure and Newer: an image as text, its measure, and whether one is newer than another; memory that was there stays as it was. / Contracts of package image's Number: a text as a number of at most so many digits, or that it is none; memory that was there stays as it was. / Contracts of slices.IndexFunc and slices.ContainsFunc at a row of ints and any predicate that leaves what was there: whether any of them is so. / How an argument reads, opened: a slice of ints is a row of ints in memory; an array of ints is the cells of a list of ints. / Contracts of package bank's Check, isMask and asked: what each returns, and that memory that was there stays as it was. / Contracts of package bank's Digest and Same: what each returns for every bank and every mask, and that memory that was there stays as it was. / Contract of package bank's Extend: for every bank, every register and every number what it returns, and that memory that was there stays as it was. / Contracts of what package stairref1 says on measures (Is, Text, Two, All): each returns what the plain mathematics says, and memory stays as it was. / Contracts of what package stairref1 says on images (Letters, Image, Digits, Line, Number): each returns what the plain mathematics says, and memory that was there stays as it was. / Contract of stairref1's Cut at a blank, for every text of at most so many bytes that its parts fit in memory: the parts; memory that was there stays as it was. / Contracts of stairref1's Cut at any byte and of its Number of at most seven digits: what each returns; memory that was there stays as it was. / Plain mathematics on keys and seals: powers modulo 1543, that 64 is of order 257 there, that a seal is right by its key and with no other answer, and what two seals by one number tell. / What package key says, as plain functions: which numbers are secrets, which are of the group, the challenge, the public key, a seal, and what is wrong with one. / Contracts of package key's IsSecret, IsPublic, power and Public over this translation: what each returns, and that memory stays as it was. / Contracts of package key's challenge, Sign and Check over this translation: what each returns, and that memory that was there stays as it was. / Contracts of package key's Check and Hold over this translation: what each returns, and that memory that was there stays as it was. / Plain laws, over any program, on worlds that are alike but for some blocks: what a call that writes to its own object alone leaves as it was; append to a row of ints of the call's own, with the block that it lies in. / Plain mathematics on counts: a least version of each name; what raising one makes of it, and what may be; the names that a law lays. / Plain mathematics on sessions: how a text is cut into lines and words, what each line is answered, and that the answers to a beginning are a beginning of the answers. / What is to be proved of package run's Run: what it answers, and that memory that was there stays as it was. / Plain mathematics on a desk's line: its words, and the numbers among them. / Plain mathematics on the answers to a session: how long they can be, and which lines there are. / How an image among the arguments reads, opened: two strings and an int, each string no longer than the reach; and what the listed variables of the library give the walk. / Contracts of errors.As at a target of type api.Errno, of plain.Told and of stairsame.Error: of no error the number nought; of an Errno its number. / The library's functions that the program reaches (strings.Join, WriteString and String of strings.Builder), held body by body against those of which the shelf's contracts speak. / Plain laws, over any program, on blocks of three and of five cells: how they are read, and stored into.
-/
import Derived.Below
import Derived.WalkKit
import Derived.ProofKit
import Derived.OwnWalk
import Derived.Laws.AppendOwnNone
import Derived.Laws.BytesArg
import Derived.Laws.Rows
import Derived.Laws.BitsLemmas
import Derived.Lib.DecodeN
import Derived.Shelf.GgClosure.StringsIndexFunc
import Derived.Shelf.Strconv.AtoiErr
import Derived.Shelf.Strconv.Itoa3
import Derived.Shelf.Strings.Search3
import Derived.Shelf.Strconv.Clone
import Derived.Shelf.Bytes.SlIndexAt
import Derived.Shelf.Strings.Search2
import Derived.Shelf.GgClosure.StringsIndexFuncTop
import Derived.Test.YtjkcplpmhjnahaaGreatDoorProg
import Derived.Test.YtjkcplpmhjnahaaGreatDoorRows
import Derived.Handy
import Derived.Lib.Atoi
import Derived.Lib.ItoaNum
import Derived.Lib.Split
import Derived.Lib.IndexBytes
import Derived.Shelf.Strconv.Atoi
import Derived.WalkSmall
import Derived.Lib.AtoiErrMem
import Derived.Deep.RegionHeld3
import Derived.Laws.Pointers
import Derived.Lib.AtoiBound
import Derived.Deep.LoopGhost
import Derived.Shelf.Abstract
import Derived.OpenShut
import Derived.ChangeSame
import Derived.RowKit
import Derived.Deep.DeepCutAuto
import Derived.Deep.WholeRow
import Derived.Deep.QuietTactic
import Derived.Laws.ResultCell
import Derived.Laws.CopyOwn
import Derived.BigQuiet
import Derived.Maps.AppendAt
import Derived.ChangeArms
import Derived.SizedLaws
import Derived.Lib.LaidTab
import Derived.Stop.LaidErr
import Derived.LaidEql
import Derived.Stop.Asserts
import Derived.RowKitTokens
import Derived.Shelf.Strings.BuilderK
import Derived.Shelf.Strings.OnBuilder
namespace Go.Proofs.YtjkcplpmhjnahaaGreatDoor.M

theorem hide {p : Prop} (h : p) : Go.RowKit.Hid p := h

/-- One step of a measure. -/
def stp (t m n : Int) : Int := (t * m + n + 1) % 1000003
theorem stp_ge (t m n : Int) : 0 ≤ stp t m n := by unfold stp; omega
theorem stp_lt (t m n : Int) : stp t m n < 1000003 := by unfold stp; omega
theorem stp_inj (t m a b : Int) (ha : 0 ≤ a) (ha' : a < 1000003) (hb : 0 ≤ b) (hb' : b < 1000003) (h : stp t m a = stp t m b) : a = b := by
  unfold stp at h
  generalize t * m = q at h
  omega

/-- Is it a measure? -/
def isM (n : Int) : Bool := decide (0 ≤ n ∧ n < 1000003)
theorem isM_iff {n : Int} : isM n = true ↔ 0 ≤ n ∧ n < 1000003 := by unfold isM; simp
theorem isM_false {n : Int} : isM n = false ↔ ¬ (0 ≤ n ∧ n < 1000003) := by unfold isM; simp

/-- Are both measures? -/
def both (a b : Int) : Bool := isM a && isM b
theorem both_left {a b : Int} (h : isM a = true) : both a b = isM b := by unfold both; rw [h]; rfl
theorem both_no {a b : Int} (h : isM a = false) : both a b = false := by unfold both; rw [h]; rfl
theorem both_iff {a b : Int} : both a b = true ↔ isM a = true ∧ isM b = true := by unfold both; rw [Bool.and_eq_true]

/-- A row of numbers, step by step. -/
def allFrom (m : Int) (xs : List Int) : Int := xs.foldl (fun m x => stp 7919 m x) m
def okAll (xs : List Int) : Bool := xs.all isM
theorem take_one {α : Type} {xs : List α} {k : Nat} {x : α} (h : xs[k]? = some x) : xs.take (k + 1) = xs.take k ++ [x] := by
  rw [List.take_add_one, h]; rfl
theorem allFrom_take {m : Int} {xs : List Int} {k : Nat} {x : Int} (h : xs[k]? = some x) : allFrom m (xs.take (k + 1)) = stp 7919 (allFrom m (xs.take k)) x := by
  rw [take_one h]; simp [allFrom]
theorem allFrom_snoc (m : Int) (xs : List Int) (x : Int) : allFrom m (xs ++ [x]) = stp 7919 (allFrom m xs) x := by simp [allFrom]
theorem allFrom_range (m : Int) (xs : List Int) (h0 : 0 ≤ m) (h1 : m < 1000003) : 0 ≤ allFrom m xs ∧ allFrom m xs < 1000003 := by
  unfold allFrom
  induction xs generalizing m with
  | nil => exact ⟨h0, h1⟩
  | cons x r ih => exact ih (stp 7919 m x) (stp_ge _ _ _) (stp_lt _ _ _)
theorem okAll_of {xs : List Int} (h : ∀ (k : Nat) (x : Int), xs[k]? = some x → isM x = true) : okAll xs = true := by
  unfold okAll
  rw [List.all_eq_true]
  intro x hx
  obtain ⟨k, hk, e⟩ := List.mem_iff_getElem.1 hx
  exact h k x (by rw [List.getElem?_eq_getElem hk, e])
theorem okAll_at {xs : List Int} (h : okAll xs = true) {k : Nat} {x : Int} (hx : xs[k]? = some x) : isM x = true := by
  unfold okAll at h
  exact List.all_eq_true.1 h x (List.mem_of_getElem? hx)
theorem okAll_not {xs : List Int} {k : Nat} {x : Int} (hx : xs[k]? = some x) (hb : isM x = false) : okAll xs = false := by
  cases h : okAll xs with
  | false => rfl
  | true => rw [okAll_at h hx] at hb; cases hb
theorem okAll_snoc (xs : List Int) (x : Int) : okAll (xs ++ [x]) = (okAll xs && isM x) := by simp [okAll]

/-- A text, byte by byte. -/
def ofFrom (m : Int) (l : List UInt8) : Int := l.foldl (fun m c => stp 257 m c.toNat) m
theorem ofFrom_take {m : Int} {l : List UInt8} {k : Nat} {c : UInt8} (h : l[k]? = some c) : ofFrom m (l.take (k + 1)) = stp 257 (ofFrom m (l.take k)) c.toNat := by
  rw [take_one h]; simp [ofFrom]
theorem ofFrom_snoc (m : Int) (l : List UInt8) (c : UInt8) : ofFrom m (l ++ [c]) = stp 257 (ofFrom m l) c.toNat := by simp [ofFrom]
theorem ofFrom_range (m : Int) (l : List UInt8) (h0 : 0 ≤ m) (h1 : m < 1000003) : 0 ≤ ofFrom m l ∧ ofFrom m l < 1000003 := by
  unfold ofFrom
  induction l generalizing m with
  | nil => exact ⟨h0, h1⟩
  | cons x r ih => exact ih (stp 257 m x.toNat) (stp_ge _ _ _) (stp_lt _ _ _)
end Go.Proofs.YtjkcplpmhjnahaaGreatDoor.M
namespace Go.Proofs.YtjkcplpmhjnahaaGreatDoor.M
open Go.RowKit

/-- A slice of numbers that stand in memory: none at all, or a row of cells from one address on. -/
def Row (w : World) (a : Option Addr) (xs : List Int) : Prop :=
  xs = [] ∨ ∃ b off, a = some ⟨b, off, none⟩ ∧ ∀ (k : Nat) (x : Int), xs[k]? = some x → w.cell? ⟨b, off + k, none⟩ = some (.int .i64 x)

theorem add_none (b off k : Nat) : (⟨b, off, none⟩ : Addr).add k = ⟨b, off + k, none⟩ := by unfold Addr.add; split <;> simp_all

theorem Row.one (b : Nat) (n : Int) (w : World) (h : w.cell? ⟨b, 0, none⟩ = some (.int .i64 n)) : Row w (some ⟨b, 0, none⟩) [n] := by
  refine Or.inr ⟨b, 0, rfl, fun k x hx => ?_⟩
  cases k with
  | zero => simp at hx; subst hx; exact h
  | succ k => simp at hx
theorem Row.below {w w' : World} {a : Option Addr} {xs : List Int} (h : Row w a xs) (hb : Below w.heap.size w w') : Row w' a xs := by
  rcases h with h | ⟨b, off, ha, hc⟩
  · exact Or.inl h
  · refine Or.inr ⟨b, off, ha, fun k x hx => ?_⟩
    have h1 := hc k x hx
    rw [hb.cell (p := ⟨b, off + k, none⟩) (World.block_lt_of_cell? w _ h1)]
    exact h1

/-- An error value and its number: none is nought; else an error of type T that is an int. -/
def IsErr (T : TypeId) (v : Value) (k : Int) : Prop := (v = .nilIface ∧ k = 0) ∨ v = .iface T (.int .i64 k)
def errV (T : TypeId) (k : Int) : Value := if k = 0 then .nilIface else .iface T (.int .i64 k)
theorem isErr_errV (T : TypeId) (k : Int) : IsErr T (errV T k) k := by
  unfold errV
  by_cases h : k = 0
  · rw [if_pos h]; exact Or.inl ⟨rfl, h⟩
  · rw [if_neg h]; exact Or.inr rfl
theorem errV_zero (T : TypeId) : errV T 0 = .nilIface := rfl
theorem errV_one (T : TypeId) : errV T 1 = .iface T (.int .i64 1) := rfl

/-- The fault and the measure of a text, of two numbers, of a row. -/
def ofC (s : ByteArray) : Int := if 24 < s.size then 4 else 0
def ofV (s : ByteArray) : Int := if 24 < s.size then 0 else ofFrom 1 s.data.toList
def twoC (a b : Int) : Int := if isM a = true ∧ isM b = true then 0 else 1
def twoV (a b : Int) : Int := if isM a = true ∧ isM b = true then stp 7919 a b else 0
def allC (xs : List Int) : Int := if 30 < xs.length then 4 else if okAll xs = true then 0 else 1
def allV (xs : List Int) : Int := if 30 < xs.length then 0 else if okAll xs = true then allFrom 0 xs else 0
theorem twoC_ok {a b : Int} (ha : isM a = true) (hb : isM b = true) : twoC a b = 0 := if_pos ⟨ha, hb⟩
theorem twoV_ok {a b : Int} (ha : isM a = true) (hb : isM b = true) : twoV a b = stp 7919 a b := if_pos ⟨ha, hb⟩
theorem twoC_bad {a b : Int} (h : ¬ (isM a = true ∧ isM b = true)) : twoC a b = 1 := if_neg h
theorem twoV_bad {a b : Int} (h : ¬ (isM a = true ∧ isM b = true)) : twoV a b = 0 := if_neg h

/-- A row of ints that the call itself made. -/
def Own (w : World) (base : Nat) (e : TypeId) (v : Value) (xs : List Int) : Prop := w.ownsRow base e 1 v xs.length (xs.map (Value.int .i64))
theorem Own.nil (w : World) (base : Nat) (e : TypeId) : Own w base e (.slice none 0 0) [] := World.ownsRow_nil w base e 1
theorem Own.alloc {w : World} {base : Nat} {e : TypeId} {v : Value} {xs : List Int} (h : Own w base e v xs) (o : Obj) : Own (w.alloc o) base e v xs := World.ownsRow.alloc h o
theorem Own.row {w : World} {base : Nat} {e : TypeId} {v : Value} {xs : List Int} (h : Own w base e v xs) : ∃ a cap, v = .slice a xs.length cap ∧ (a = none → cap = 0) ∧ Row w a xs := by
  have h0 := h
  obtain ⟨_, h2⟩ := h
  rcases h2 with ⟨hv, hn⟩ | ⟨g, cap, cur, hv, _, _, _, _, _, _⟩
  · exact ⟨none, 0, by rw [hv, hn], fun _ => rfl, Or.inl (List.length_eq_zero_iff.1 hn)⟩
  · refine ⟨some ⟨g, 0, none⟩, cap, hv, fun hno => (by cases hno), Or.inr ⟨g, 0, rfl, fun k x hx => ?_⟩⟩
    have hc := World.ownsRow.cells (g := g) h0 (by rw [hv]; rfl) k (.int .i64 x) (by rw [List.getElem?_map, hx]; rfl)
    rw [add_none] at hc
    exact hc
theorem Own.block {w : World} {base : Nat} {e : TypeId} {v : Value} {xs : List Int} (h : Own w base e v xs) : ∀ k, v.ownBlock = some k → base ≤ k := fun k hk => (World.ownsRow.lt h k hk).1

/-- 'x = append(x, ys...)' where x is a row of ints of the call's own and ys can be read: a law for the walk. -/
theorem wpList_app {P : Program} {w : World} {ops : Array Oper} {rest : List Oper} {o : Oper} {a : Act} {Q : Exit → Act → World → Prop} (hgd : o.guard = none) (s x : Operand) (t : TypeId)
    (ho : o.op = .call { callee := .builtin .append, args := #[s, x], argTypes := #[t, t] })
    (base : Nat) (e : TypeId) (hinfo : (P.info? e).map (fun i => (i.zero, i.size, i.bytes)) = some (some (.int .i64 0), 1, 8)) (ht : P.underlying t = some (.slice e))
    (v : Value) (xs : List Int) (hs : a.eval s = v) (hown : Own w base e v xs)
    (ad : Option Addr) (m c : Nat) (ys : List Int) (hx : a.eval x = .slice ad m c) (hm : m = ys.length) (hc : ad = none → c = 0) (hrow : Row w ad ys)
    (hb : xs.length + ys.length ≤ 1000000) (hbase : base ≤ w.heap.size)
    (h : ∀ v' w', Own w' base e v' (xs ++ ys) → w.grownBy w' v.ownBlock → wpList P ops Q rest (a.put o.dst v') w') : wpList P ops Q (o :: rest) a w := by
  obtain ⟨i, hi, hz0, hz1, hz2⟩ := info_parts hinfo
  subst hm
  cases ad with
  | none =>
    have hy : ys = [] := by
      rcases hrow with h | ⟨b, off, h, _⟩
      · exact h
      · cases h
    subst hy
    rw [hc rfl] at hx
    refine wpList_append_own_none hgd s x t ho base e i 1 ht hi v xs.length _ hs hown hx (h v w (by simpa using hown) ⟨rfl, rfl, rfl, Nat.le_refl _, fun _ _ _ => rfl⟩)
  | some ad =>
    refine wpList_append_own w hgd s x t ho base e i (.int .i64 0) 1 8 ht hi hz0 hz1 hz2 rfl (by decide) v xs.length _ hs hown ad ys.length c (ys.map (Value.int .i64)) hx (by simp) ?_ ?_ (by unfold maxLen; omega) (by omega) hbase ?_
    · intro j u hj
      rw [List.getElem?_map] at hj
      obtain ⟨y, hy, rfl⟩ := Option.map_eq_some_iff.1 hj
      rcases hrow with h | ⟨b, off, h, hcell⟩
      · subst h; simp at hy
      · cases h
        rw [add_none]
        exact hcell j y hy
    · intro u hu
      obtain ⟨_, _, rfl⟩ := List.mem_map.1 hu
      rfl
    · intro v' w' h1 h2 _
      refine h v' w' ?_ h2
      have e1 : (xs ++ ys).length = xs.length + ys.length := by simp
      unfold Own
      rw [e1, List.map_append]
      exact h1

/-- string([]byte{c}). -/
theorem run_one_byte {P : Program} (src e dst : TypeId) (hs : P.underlying src = some (.slice e)) (he : P.underlying e = some (.int .u8)) (hd : P.underlying dst = some .string) (c : Int) (t : TypeId) (w : World) (b : Nat) (hb : w.heap.size = b) :
    (convert src dst (.slice (some ⟨b, 0, none⟩) 1 1)).run P (w.alloc (.cells #[.int .u8 c] t)) = .ok (.string (strOfNums [c])) (w.alloc (.cells #[.int .u8 c] t)) :=
  run_convert_bytes_arg _ src e hs he b 0 1 1 [c] rfl (fun i hi => by
    have : i = 0 := by omega
    subst this
    subst hb
    simp) dst hd
theorem app_one_size (s : ByteArray) (c : Int) : (s ++ strOfNums [c]).size = s.size + 1 := by
  rw [ByteArray.size_append, strOfNums_size]; rfl
theorem app_one_list (s : ByteArray) (c : Int) : (s ++ strOfNums [c]).data.toList = s.data.toList ++ [UInt8.ofNat c.toNat] := by
  rw [ByteArray.data_append, Array.toList_append, strOfNums_data]; rfl
theorem byte_back {c : Int} (h0 : 0 ≤ c) (h1 : c ≤ 255) : ((UInt8.ofNat c.toNat).toNat : Int) = c := by
  rw [UInt8.toNat_ofNat']
  omega
end Go.Proofs.YtjkcplpmhjnahaaGreatDoor.M
namespace Go.Proofs.YtjkcplpmhjnahaaGreatDoor.M
open Go.RowKit

theorem blk_lt {w : World} {b : Nat} {o : Obj} (h : w.heap[b]? = some o) : b < w.heap.size := (Array.getElem?_eq_some_iff.1 h).1
theorem blk_below {w w' : World} {b : Nat} {o : Obj} (h : w.heap[b]? = some o) (hb : Below w.heap.size w w') : w'.heap[b]? = some o := (hb.block b (blk_lt h)).trans h
theorem blk_keep {w : World} {b : Nat} {o : Obj} (h : w.heap[b]? = some o) (o' : Obj) : (w.alloc o').heap[b]? = some o := (Go.RowKit.Below.heap_alloc w o' b (blk_lt h)).trans h
theorem blk_new (w : World) (o : Obj) : (w.alloc o).heap[w.heap.size]? = some o := by
  show (w.heap.push o)[w.heap.size]? = some o
  exact Array.getElem?_push_size
theorem below_new (w : World) (o : Obj) : Below w.heap.size w (w.alloc o) := (Below.refl _ w).alloc (Nat.le_refl _) o
theorem below_on {w w1 w2 : World} (h : Below w.heap.size w w1) (h2 : Below w1.heap.size w1 w2) : Below w.heap.size w w2 := h.trans (h2.mono h.size)
theorem Row.three {w : World} {b : Nat} {p q m : Int} {t : TypeId} {fr : Nat × Nat} (h : w.heap[b]? = some (.cells #[.int .i64 p, .int .i64 q, .int .i64 m] t fr)) : Row w (some ⟨b, 0, none⟩) [p, q, m] := by
  refine Or.inr ⟨b, 0, rfl, fun k x hx => ?_⟩
  have hc : ∀ j, w.cell? ⟨b, j, none⟩ = (#[Value.int .i64 p, .int .i64 q, .int .i64 m])[j]? := fun j => by rw [cell_of_row w b _ _ t fr h]
  rw [Nat.zero_add, hc]
  match k with
  | 0 => simp at hx; subst hx; rfl
  | 1 => simp at hx; subst hx; rfl
  | 2 => simp at hx; subst hx; rfl
  | k + 3 => simp at hx
/-- The cells of a seal, laid in a block of its own. -/
def sealC (p a : Int) : Array Value := #[.int .i64 p, .int .i64 a]
theorem seal_cells {w : World} {b : Nat} {p a : Int} {t : TypeId} {fr : Nat × Nat} (h : w.heap[b]? = some (.cells #[.int .i64 p, .int .i64 a] t fr)) :
    w.cell? ⟨b, 0, none⟩ = some (.int .i64 p) ∧ w.cell? ⟨b, 1, none⟩ = some (.int .i64 a) := by
  refine ⟨?_, ?_⟩ <;> rw [cell_of_row w b _ _ t fr h] <;> rfl
theorem seal_free {w : World} {b : Nat} {c : Array Value} {t : TypeId} (h : w.heap[b]? = some (.cells c t)) :
    w.frozen? ⟨b, 0, none⟩ = false ∧ w.frozen? ⟨b, 1, none⟩ = false := ⟨frozen_of_row w b 0 _ _ h, frozen_of_row w b 1 _ _ h⟩
theorem two_set {w : World} {b : Nat} {a0 a1 x y : Value} {t : TypeId} {fr : Nat × Nat} (hg : w.heap[b]? = some (.cells #[a0, a1] t fr)) :
    (w.setCell ⟨b, 0, none⟩ x).setCell ⟨b, 1, none⟩ y = w.setRow b #[x, y] := by
  rw [setCell_eq_setRow w b 0 _ _ _ x hg]
  have h1 := setRow_heap w b _ (#[a0, a1].setIfInBounds 0 x) t fr hg
  rw [setCell_eq_setRow _ b 1 _ _ _ y h1, setRow_setRow]
  rfl
end Go.Proofs.YtjkcplpmhjnahaaGreatDoor.M
namespace Go.Proofs.YtjkcplpmhjnahaaGreatDoor.M
open Go.RowKit

/-- A bank's cells. -/
def bankC (xs : List Int) : Array Value := (xs.map (Value.int .i64)).toArray
theorem bankC_size (xs : List Int) : (bankC xs).size = xs.length := by simp [bankC]
theorem bankC_at {xs : List Int} {k : Nat} {x : Int} (h : xs[k]? = some x) : (bankC xs)[k]? = some (.int .i64 x) := by simp [bankC, h]
theorem bankC_set (xs : List Int) (k : Nat) (x : Int) : (bankC xs).setIfInBounds k (.int .i64 x) = bankC (xs.set k x) := by
  unfold bankC
  apply Array.ext'
  simp [List.map_set]
theorem bankC_inj {xs ys : List Int} (h : bankC xs = bankC ys) : xs = ys := by
  unfold bankC at h
  have h1 := congrArg Array.toList h
  simp only [] at h1
  exact (List.map_inj_right (fun a b e => by cases e; rfl)).1 h1

/-- Does a mask ask for a register? -/
def bit (m : Int) (k : Nat) : Bool := decide (m / 2 ^ k % 2 = 1)
theorem and_one (n : Int) : bits .and .i64 n 1 = n % 2 := by
  have h1 : (BitVec.ofInt 64 1).toNat = 2 ^ 1 - 1 := by decide
  have key : (BitVec.ofInt 64 n &&& BitVec.ofInt 64 1).toNat = (n % ((2 ^ 64 : Nat) : Int)).toNat % 2 ^ 1 := by
    rw [BitVec.toNat_and, BitVec.toNat_ofInt, h1, Nat.and_two_pow_sub_one_eq_mod]
  show IntKind.i64.wrap ((BitVec.ofInt 64 n &&& BitVec.ofInt 64 1).toNat : Nat) = n % 2
  rw [key, IntKind.wrap_i64]
  omega
theorem bit_yes {m : Int} {k : Nat} (h : bit m k = true) : bits .and .i64 (m / 2 ^ k) 1 = 1 := by
  rw [and_one]; unfold bit at h; simpa using h
theorem bit_no {m : Int} {k : Nat} (h : bit m k = false) : bits .and .i64 (m / 2 ^ k) 1 = 0 := by
  rw [and_one]; unfold bit at h
  have h1 : ¬ (m / 2 ^ k % 2 = 1) := by simpa using h
  generalize m / 2 ^ k = q at h1 ⊢
  omega
def isMask (m : Int) : Bool := decide (0 ≤ m ∧ m ≤ 255)
theorem isMask_iff {m : Int} : isMask m = true ↔ 0 ≤ m ∧ m ≤ 255 := by unfold isMask; simp
theorem isMask_false {m : Int} : isMask m = false ↔ ¬ (0 ≤ m ∧ m ≤ 255) := by unfold isMask; simp
/-- The registers that a mask asks for, below n. -/
def askedL (m : Int) (n : Nat) : List Int := ((List.range n).filter (bit m)).map fun k : Nat => (k : Int)
theorem askedL_zero (m : Int) : askedL m 0 = [] := rfl
theorem askedL_hit {m : Int} {n : Nat} (h : bit m n = true) : askedL m (n + 1) = askedL m n ++ [(n : Int)] := by simp [askedL, List.range_succ, h]
theorem askedL_miss {m : Int} {n : Nat} (h : bit m n = false) : askedL m (n + 1) = askedL m n := by simp [askedL, List.range_succ, h]
theorem askedL_len (m : Int) (n : Nat) : (askedL m n).length ≤ n := by
  unfold askedL
  rw [List.length_map]
  exact Nat.le_trans (List.length_filter_le _ _) (by simp)
theorem askedL_mem {m : Int} {n : Nat} {i : Int} (h : i ∈ askedL m n) : ∃ k : Nat, k < n ∧ i = k ∧ bit m k = true := by
  unfold askedL at h
  obtain ⟨k, hk, rfl⟩ := List.mem_map.1 h
  rw [List.mem_filter] at hk
  exact ⟨k, List.mem_range.1 hk.1, rfl, hk.2⟩
theorem askedL_of {m : Int} {n k : Nat} (hk : k < n) (h : bit m k = true) : (k : Int) ∈ askedL m n :=
  List.mem_map.2 ⟨k, List.mem_filter.2 ⟨List.mem_range.2 hk, h⟩, rfl⟩

/-- Those of a bank. -/
def pick (xs : List Int) (is : List Int) : List Int := is.map fun i => xs.getD i.toNat 0
theorem pick_take {xs is : List Int} {k : Nat} {i x : Int} (h : is[k]? = some i) (hx : xs[i.toNat]? = some x) : pick xs (is.take (k + 1)) = pick xs (is.take k) ++ [x] := by
  rw [take_one h]
  simp [pick, hx]
theorem pick_len (xs is : List Int) : (pick xs is).length = is.length := by simp [pick]
theorem pick_ok {xs : List Int} (h : okAll xs = true) (hl : xs.length = 8) (m : Int) : okAll (pick xs (askedL m 8)) = true := by
  refine okAll_of fun k x hx => ?_
  simp only [pick, List.getElem?_map, Option.map_eq_some_iff] at hx
  obtain ⟨i, hi, rfl⟩ := hx
  obtain ⟨j, hj, rfl, _⟩ := askedL_mem (List.mem_of_getElem? hi)
  have : xs[j]? = some (xs[j]'(by omega)) := List.getElem?_eq_getElem (by omega)
  simp only [Int.toNat_natCast, List.getD_eq_getElem?_getD, this, Option.getD_some]
  exact okAll_at h this

/-- A bank's fault; a digest's, and it; likeness. -/
def bankE (xs : List Int) : Int := if okAll xs = true then 0 else 1
def digE (xs : List Int) (m : Int) : Int := if okAll xs = true ∧ isMask m = true then 0 else 1
def digV (xs : List Int) (m : Int) : Int := if okAll xs = true ∧ isMask m = true then allFrom 0 (pick xs (askedL m 8)) else 0
def sameE (xs ys : List Int) (m : Int) : Int := if okAll xs = true ∧ okAll ys = true ∧ isMask m = true then 0 else 1
def differ (xs ys : List Int) (m : Int) : Bool := (askedL m 8).any fun i => xs.getD i.toNat 0 != ys.getD i.toNat 0
def sameV (xs ys : List Int) (m : Int) : Bool := if okAll xs = true ∧ okAll ys = true ∧ isMask m = true then !differ xs ys m else false
theorem bankE_ok {xs : List Int} (h : okAll xs = true) : bankE xs = 0 := if_pos h
theorem bankE_bad {xs : List Int} (h : okAll xs = false) : bankE xs = 1 := if_neg (by rw [h]; exact Bool.false_ne_true)
theorem digE_ok {xs : List Int} {m : Int} (h : okAll xs = true) (hm : isMask m = true) : digE xs m = 0 := if_pos ⟨h, hm⟩
theorem digV_ok {xs : List Int} {m : Int} (h : okAll xs = true) (hm : isMask m = true) : digV xs m = allFrom 0 (pick xs (askedL m 8)) := if_pos ⟨h, hm⟩
theorem digE_bad {xs : List Int} {m : Int} (h : ¬ (okAll xs = true ∧ isMask m = true)) : digE xs m = 1 := if_neg h
theorem digV_bad {xs : List Int} {m : Int} (h : ¬ (okAll xs = true ∧ isMask m = true)) : digV xs m = 0 := if_neg h
theorem sameE_ok {xs ys : List Int} {m : Int} (h : okAll xs = true) (h' : okAll ys = true) (hm : isMask m = true) : sameE xs ys m = 0 := if_pos ⟨h, h', hm⟩
theorem sameV_ok {xs ys : List Int} {m : Int} (h : okAll xs = true) (h' : okAll ys = true) (hm : isMask m = true) : sameV xs ys m = !differ xs ys m := if_pos ⟨h, h', hm⟩
theorem sameE_bad {xs ys : List Int} {m : Int} (h : ¬ (okAll xs = true ∧ okAll ys = true ∧ isMask m = true)) : sameE xs ys m = 1 := if_neg h
theorem sameV_bad {xs ys : List Int} {m : Int} (h : ¬ (okAll xs = true ∧ okAll ys = true ∧ isMask m = true)) : sameV xs ys m = false := if_neg h
/-- Extended: its fault, and the bank. -/
def isReg (i : Int) : Bool := decide (0 ≤ i ∧ i < 8)
theorem isReg_iff {i : Int} : isReg i = true ↔ 0 ≤ i ∧ i < 8 := by unfold isReg; simp
theorem isReg_false {i : Int} : isReg i = false ↔ ¬ (0 ≤ i ∧ i < 8) := by unfold isReg; simp
def extOk (xs : List Int) (i m : Int) : Bool := okAll xs && (isReg i && isM m)
theorem extOk_iff {xs : List Int} {i m : Int} : extOk xs i m = true ↔ okAll xs = true ∧ isReg i = true ∧ isM m = true := by unfold extOk; rw [Bool.and_eq_true, Bool.and_eq_true]
def extE (xs : List Int) (i m : Int) : Int := if extOk xs i m = true then 0 else 1
def noBank : List Int := [0, 0, 0, 0, 0, 0, 0, 0]
def extV (xs : List Int) (i m : Int) : List Int := if extOk xs i m = true then xs.set i.toNat (stp 7919 (xs.getD i.toNat 0) m) else noBank
theorem extE_ok {xs : List Int} {i m : Int} (h : extOk xs i m = true) : extE xs i m = 0 := if_pos h
theorem extV_ok {xs : List Int} {i m : Int} (h : extOk xs i m = true) : extV xs i m = xs.set i.toNat (stp 7919 (xs.getD i.toNat 0) m) := if_pos h
theorem extE_bad {xs : List Int} {i m : Int} (h : extOk xs i m = false) : extE xs i m = 1 := if_neg (by rw [h]; exact Bool.false_ne_true)
theorem extV_bad {xs : List Int} {i m : Int} (h : extOk xs i m = false) : extV xs i m = noBank := if_neg (by rw [h]; exact Bool.false_ne_true)
theorem extV_len {xs : List Int} (hl : xs.length = 8) (i m : Int) : (extV xs i m).length = 8 := by
  cases h : extOk xs i m with
  | true => rw [extV_ok h, List.length_set]; exact hl
  | false => rw [extV_bad h]; rfl

theorem any_bad (xs : List Int) : (xs.any fun x => !isM x) = !okAll xs := by
  unfold okAll
  induction xs with
  | nil => rfl
  | cons x r ih => simp only [List.any_cons, List.all_cons, ih]; cases isM x <;> simp

theorem heap_lt {w : World} {b : Nat} {o : Obj} (h : w.heap[b]? = some o) : b < w.heap.size := (Array.getElem?_eq_some_iff.1 h).1
/-- A bank that was laid in a block of its own. -/
theorem bank_cell {w : World} {b : Nat} {xs : List Int} {t : TypeId} {fr : Nat × Nat} (h : w.heap[b]? = some (.cells (bankC xs) t fr)) {k : Nat} {x : Int} (hx : xs[k]? = some x) : w.cell? ⟨b, k, none⟩ = some (.int .i64 x) := by
  rw [cell_of_row w b k _ t fr h]
  exact bankC_at hx
theorem bank_row {w : World} {b : Nat} {xs : List Int} {t : TypeId} {fr : Nat × Nat} (h : w.heap[b]? = some (.cells (bankC xs) t fr)) : Row w (some ⟨b, 0, none⟩) xs :=
  Or.inr ⟨b, 0, rfl, fun k x hx => by rw [Nat.zero_add]; exact bank_cell h hx⟩
end Go.Proofs.YtjkcplpmhjnahaaGreatDoor.M
namespace Go.Proofs.YtjkcplpmhjnahaaGreatDoor.M
open Go.RowKit

/-- Is a byte a letter from a to z? -/
def letB (b : UInt8) : Bool := decide (97 ≤ b.toNat ∧ b.toNat ≤ 122)
/-- Is a text of letters alone? -/
def letS (s : ByteArray) : Bool := s.data.toList.all letB
/-- A rune that is no letter. -/
def offR (r : Nat) : Bool := decide (r < 97) || decide (122 < r)
theorem offR_let (b : UInt8) : offR b.toNat = !letB b := by
  unfold offR letB
  by_cases h1 : b.toNat < 97
  · have : ¬ (97 ≤ b.toNat ∧ b.toNat ≤ 122) := by omega
    simp [h1, this]
  · by_cases h2 : 122 < b.toNat
    · have : ¬ (97 ≤ b.toNat ∧ b.toNat ≤ 122) := by omega
      simp [h1, h2, this]
    · have : 97 ≤ b.toNat ∧ b.toNat ≤ 122 := by omega
      simp [h1, h2, this]
theorem decodeN_high (n b0 b1 b2 b3 : Nat) (h : 128 ≤ b0) : 128 ≤ (Lib.decodeN n b0 b1 b2 b3).1 := by
  unfold Lib.decodeN
  rw [if_neg (by omega)]
  repeat' split
  all_goals (simp only []; omega)
theorem get_at {s : ByteArray} {i : Nat} {b : UInt8} (h : s.data.toList[i]? = some b) : s.get! i = b := by
  obtain ⟨d⟩ := s
  simp only [ByteArray.get!]
  rw [Array.getElem?_toList] at h
  simp [getElem!_def, h]
theorem decode_low {s : ByteArray} {i : Nat} {b : UInt8} (h : s.data.toList[i]? = some b) (hb : b.toNat < 128) : Utf8.decode s i = (b.toNat, 1) := by
  rw [Lib.decode_at, get_at h]
  unfold Lib.decodeN
  rw [if_pos hb]
theorem decode_high {s : ByteArray} {i : Nat} {b : UInt8} (h : s.data.toList[i]? = some b) (hb : ¬ b.toNat < 128) : 128 ≤ (Utf8.decode s i).1 := by
  rw [Lib.decode_at, get_at h]
  exact decodeN_high _ _ _ _ _ (by omega)
theorem len_size (s : ByteArray) : s.data.toList.length = s.size := Array.length_toList
theorem idx_from (s : ByteArray) : ∀ (f pos : Nat), s.size ≤ pos + f → decide (0 ≤ Lib.idxFuncFrom offR true s f pos) = !(s.data.toList.drop pos).all letB
  | 0, pos, h => by
    have e : s.data.toList.drop pos = [] := by
      apply List.drop_eq_nil_of_le
      have := len_size s
      omega
    rw [e]
    simp [Lib.idxFuncFrom]
  | f + 1, pos, h => by
    have hl := len_size s
    unfold Lib.idxFuncFrom
    by_cases hp : pos < s.size
    · obtain ⟨b, hb⟩ : ∃ b, s.data.toList[pos]? = some b := ⟨s.data.toList[pos]'(by omega), List.getElem?_eq_getElem (by omega)⟩
      have hd : s.data.toList.drop pos = b :: s.data.toList.drop (pos + 1) := by
        rw [List.drop_eq_getElem_cons (by omega)]
        congr 1
        rw [List.getElem?_eq_getElem (by omega)] at hb
        exact Option.some.inj hb
      rw [if_pos hp, hd, List.all_cons]
      by_cases h128 : b.toNat < 128
      · rw [decode_low hb h128]
        simp only []
        rw [offR_let]
        cases hB : letB b with
        | false => simp
        | true =>
          have := idx_from s f (pos + 1) (by omega)
          simp only [Bool.not_true, Bool.false_eq_true, if_false, Bool.true_and]
          exact this
      · have hh := decode_high hb h128
        have ho : offR (Utf8.decode s pos).1 = true := by unfold offR; simp; omega
        have hB : letB b = false := by unfold letB; simp; omega
        rw [if_pos ho, hB]
        simp
    · rw [if_neg hp]
      have e : s.data.toList.drop pos = [] := List.drop_eq_nil_of_le (by omega)
      rw [e]
      simp
theorem idx_letters (s : ByteArray) : decide (0 ≤ Lib.idxFunc offR true s) = !letS s := by
  unfold Lib.idxFunc letS
  rw [idx_from s s.size 0 (by omega), List.drop_zero]

/-- What is wrong with an image: the number of the error, 0 for none. -/
def imgE (nm : ByteArray) (v : Int) (cd : ByteArray) : Int :=
  if nm.size = 0 ∨ letS nm = false ∨ letS cd = false then 3 else if 8 < nm.size ∨ 8 < cd.size then 4 else if v < 1 ∨ 1000 < v then 1 else 0
theorem imgE_shape {nm cd : ByteArray} {v : Int} (h : nm.size = 0 ∨ letS nm = false ∨ letS cd = false) : imgE nm v cd = 3 := by unfold imgE; rw [if_pos h]
theorem imgE_full {nm cd : ByteArray} {v : Int} (h : ¬ nm.size = 0) (ha : letS nm = true) (hb : letS cd = true) (hf : 8 < nm.size ∨ 8 < cd.size) : imgE nm v cd = 4 := by
  unfold imgE; rw [if_neg (by simp [h, ha, hb]), if_pos hf]
theorem imgE_range {nm cd : ByteArray} {v : Int} (h : ¬ nm.size = 0) (ha : letS nm = true) (hb : letS cd = true) (hf : ¬ (8 < nm.size ∨ 8 < cd.size)) (hr : v < 1 ∨ 1000 < v) : imgE nm v cd = 1 := by
  unfold imgE; rw [if_neg (by simp [h, ha, hb]), if_neg hf, if_pos hr]
theorem imgE_none {nm cd : ByteArray} {v : Int} (h : ¬ nm.size = 0) (ha : letS nm = true) (hb : letS cd = true) (hf : ¬ (8 < nm.size ∨ 8 < cd.size)) (hr : ¬ (v < 1 ∨ 1000 < v)) : imgE nm v cd = 0 := by
  unfold imgE; rw [if_neg (by simp [h, ha, hb]), if_neg hf, if_neg hr]
theorem imgE_zero {nm cd : ByteArray} {v : Int} (h : imgE nm v cd = 0) : nm.size ≠ 0 ∧ letS nm = true ∧ letS cd = true ∧ nm.size ≤ 8 ∧ cd.size ≤ 8 ∧ 1 ≤ v ∧ v ≤ 1000 := by
  unfold imgE at h
  split at h
  · cases h
  · rename_i h1
    split at h
    · cases h
    · rename_i h2
      split at h
      · cases h
      · rename_i h3
        refine ⟨fun e => h1 (Or.inl e), ?_, ?_, by omega, by omega, by omega, by omega⟩
        · cases e : letS nm with
          | true => rfl
          | false => exact absurd (Or.inr (Or.inl e)) h1
        · cases e : letS cd with
          | true => rfl
          | false => exact absurd (Or.inr (Or.inr e)) h1
/-- The cells of an image. -/
def imgC (nm : ByteArray) (v : Int) (cd : ByteArray) : Array Value := #[.string nm, .int .i64 v, .string cd]
/-- An image that was laid in a block of its own. -/
theorem img_cells {w : World} {b : Nat} {nm cd : ByteArray} {v : Int} {t : TypeId} {fr : Nat × Nat} (h : w.heap[b]? = some (.cells (imgC nm v cd) t fr)) :
    w.cell? ⟨b, 0, none⟩ = some (.string nm) ∧ w.cell? ⟨b, 1, none⟩ = some (.int .i64 v) ∧ w.cell? ⟨b, 2, none⟩ = some (.string cd) := by
  refine ⟨?_, ?_, ?_⟩ <;> rw [cell_of_row w b _ _ t fr h] <;> rfl
/-- A version is from 1 to 1000. -/
def verB (v : Int) : Bool := decide (1 ≤ v ∧ v ≤ 1000)
theorem verB_is {v : Int} (h1 : 1 ≤ v) (h2 : v ≤ 1000) : verB v = true := decide_eq_true ⟨h1, h2⟩
theorem verB_not {v : Int} (h : v < 1 ∨ 1000 < v) : verB v = false := decide_eq_false (by omega)
theorem verB_yes {v : Int} (h : verB v = true) : 1 ≤ v ∧ v ≤ 1000 := of_decide_eq_true h
theorem verB_no {v : Int} (h : verB v = false) : v < 1 ∨ 1000 < v := by
  have := of_decide_eq_false h
  omega
end Go.Proofs.YtjkcplpmhjnahaaGreatDoor.M
namespace Go.Proofs
open Go.Shelf
def Tryz.lays171_ren : Go.Shelf.Ren := ⟨fun | 171 => 80 | 243 => 104 | 246 => 119 | 283 => 125 | 284 => 126 | 285 => 127 | 286 => 128 | 129 => 135 | 317 => 134 | 318 => 136 | 319 => 137 | 320 => 138 | 337 => 141 | 338 => 142 | n => n, fun | 3 => 3 | 9 => 9 | 2 => 2 | 4 => 4 | 171 => 182 | 0 => 0 | 53 => 176 | 37 => 40 | 5 => 5 | 173 => 185 | 212 => 194 | 51 => 155 | 20 => 20 | 213 => 195 | 46 => 131 | 232 => 201 | 233 => 202 | n => n, fun | 17 => 7 | 18 => 8 | 19 => 9 | n => n⟩
theorem Tryz.lays171 : Go.Proofs.LaysM.n171 Tryz.prog Tryz.lays171_ren := {
  mixed := by kernel_rfl
  f129 := Tryz.func135.trans (congrArg some (by kernel_rfl))
  f171 := Tryz.func80.trans (congrArg some (by kernel_rfl))
  f243 := Tryz.func104.trans (congrArg some (by kernel_rfl))
  f246 := Tryz.func119.trans (congrArg some (by kernel_rfl))
  f283 := Tryz.func125.trans (congrArg some (by kernel_rfl))
  f284 := Tryz.func126.trans (congrArg some (by kernel_rfl))
  f285 := Tryz.func127.trans (congrArg some (by kernel_rfl))
  f286 := Tryz.func128.trans (congrArg some (by kernel_rfl))
  f317 := Tryz.func134.trans (congrArg some (by kernel_rfl))
  f318 := Tryz.func136.trans (congrArg some (by kernel_rfl))
  f319 := Tryz.func137.trans (congrArg some (by kernel_rfl))
  f320 := Tryz.func138.trans (congrArg some (by kernel_rfl))
  f337 := Tryz.func141.trans (congrArg some (by kernel_rfl))
  f338 := Tryz.func142.trans (congrArg some (by kernel_rfl))
  t0 := Tryz.underlying0
  a0 := Tryz.isAgg0
  z0 := Tryz.sizeOf0
  v0 := Tryz.zeroValue0
  t2 := Tryz.underlying2
  a2 := Tryz.isAgg2
  z2 := Tryz.sizeOf2
  v2 := Tryz.zeroValue2
  t3 := Tryz.underlying3
  a3 := Tryz.isAgg3
  z3 := Tryz.sizeOf3
  v3 := Tryz.zeroValue3
  t4 := Tryz.underlying4
  a4 := Tryz.isAgg4
  z4 := Tryz.sizeOf4
  v4 := Tryz.zeroValue4
  t5 := Tryz.underlying5
  a5 := Tryz.isAgg5
  z5 := Tryz.sizeOf5
  v5 := Tryz.zeroValue5
  t9 := Tryz.underlying9
  a9 := Tryz.isAgg9
  z9 := Tryz.sizeOf9
  v9 := Tryz.zeroValue9
  t20 := Tryz.underlying20
  a20 := Tryz.isAgg20
  z20 := Tryz.sizeOf20
  v20 := Tryz.zeroValue20
  t37 := Tryz.underlying40
  a37 := Tryz.isAgg40
  z37 := Tryz.sizeOf40
  v37 := Tryz.zeroValue40
  t46 := Tryz.underlying131
  a46 := Tryz.isAgg131
  z46 := Tryz.sizeOf131
  v46 := Tryz.zeroValue131
  t51 := Tryz.underlying155
  a51 := Tryz.isAgg155
  z51 := Tryz.sizeOf155
  v51 := Tryz.zeroValue155
  t53 := Tryz.underlying176
  a53 := Tryz.isAgg176
  z53 := Tryz.sizeOf176
  v53 := Tryz.zeroValue176
  t171 := Tryz.underlying182
  a171 := Tryz.isAgg182
  z171 := Tryz.sizeOf182
  v171 := Tryz.zeroValue182
  t173 := Tryz.underlying185
  a173 := Tryz.isAgg185
  z173 := Tryz.sizeOf185
  v173 := Tryz.zeroValue185
  t212 := Tryz.underlying194
  a212 := Tryz.isAgg194
  z212 := Tryz.sizeOf194
  v212 := Tryz.zeroValue194
  t213 := Tryz.underlying195
  a213 := Tryz.isAgg195
  z213 := Tryz.sizeOf195
  t232 := Tryz.underlying201
  a232 := Tryz.isAgg201
  z232 := Tryz.sizeOf201
  v232 := Tryz.zeroValue201
  t233 := Tryz.underlying202
  a233 := Tryz.isAgg202
  z233 := Tryz.sizeOf202
  v233 := Tryz.zeroValue202
  g17 := by kernel_rfl
  g18 := by kernel_rfl
  g19 := by kernel_rfl
  i0 := by kernel_rfl
  i2 := by kernel_rfl
  i3 := by kernel_rfl
  i4 := by kernel_rfl
  i5 := by kernel_rfl
  i9 := by kernel_rfl
  i20 := by kernel_rfl
  i37 := by kernel_rfl
  i46 := by kernel_rfl
  i51 := by kernel_rfl
  i53 := by kernel_rfl
  i171 := by kernel_rfl
  i173 := by kernel_rfl
  i212 := by kernel_rfl
  i232 := by kernel_rfl
  i233 := by kernel_rfl
  m17 := by kernel_rfl
  m18 := by kernel_rfl
  m19 := by kernel_rfl }
def Tryz.lays172_ren : Go.Shelf.Ren := ⟨fun | 172 => 79 | 244 => 102 | 245 => 103 | 247 => 114 | 279 => 115 | 280 => 116 | 281 => 117 | 282 => 118 | 287 => 123 | 316 => 112 | 171 => 80 | 205 => 124 | 321 => 132 | 322 => 133 | 243 => 104 | 246 => 119 | 283 => 125 | 284 => 126 | 285 => 127 | 286 => 128 | 129 => 135 | 317 => 134 | 318 => 136 | 319 => 137 | 320 => 138 | 337 => 141 | 338 => 142 | n => n, fun | 9 => 9 | 3 => 3 | 75 => 47 | 76 => 48 | 4 => 4 | 5 => 5 | 167 => 167 | 37 => 40 | 0 => 0 | 85 => 168 | 2 => 2 | 168 => 170 | 53 => 176 | 175 => 177 | 46 => 131 | 210 => 180 | 127 => 81 | 145 => 192 | 143 => 190 | 21 => 21 | 171 => 182 | 173 => 185 | 212 => 194 | 51 => 155 | 20 => 20 | 213 => 195 | 232 => 201 | 233 => 202 | 80 => 50 | n => n, fun | 15 => 5 | 16 => 6 | 17 => 7 | 18 => 8 | 19 => 9 | n => n⟩
theorem Tryz.lays172 : Go.Proofs.LaysC.n172 Tryz.prog Tryz.lays172_ren := {
  mixed := by kernel_rfl
  f129 := Tryz.func135.trans (congrArg some (by kernel_rfl))
  f171 := Tryz.func80.trans (congrArg some (by kernel_rfl))
  f172 := Tryz.func79.trans (congrArg some (by kernel_rfl))
  f205 := Tryz.func124.trans (congrArg some (by kernel_rfl))
  f243 := Tryz.func104.trans (congrArg some (by kernel_rfl))
  f244 := Tryz.func102.trans (congrArg some (by kernel_rfl))
  f245 := Tryz.func103.trans (congrArg some (by kernel_rfl))
  f246 := Tryz.func119.trans (congrArg some (by kernel_rfl))
  f247 := Tryz.func114.trans (congrArg some (by kernel_rfl))
  f279 := Tryz.func115.trans (congrArg some (by kernel_rfl))
  f280 := Tryz.func116.trans (congrArg some (by kernel_rfl))
  f281 := Tryz.func117.trans (congrArg some (by kernel_rfl))
  f282 := Tryz.func118.trans (congrArg some (by kernel_rfl))
  f283 := Tryz.func125.trans (congrArg some (by kernel_rfl))
  f284 := Tryz.func126.trans (congrArg some (by kernel_rfl))
  f285 := Tryz.func127.trans (congrArg some (by kernel_rfl))
  f286 := Tryz.func128.trans (congrArg some (by kernel_rfl))
  f287 := Tryz.func123.trans (congrArg some (by kernel_rfl))
  f316 := Tryz.func112.trans (congrArg some (by kernel_rfl))
  f317 := Tryz.func134.trans (congrArg some (by kernel_rfl))
  f318 := Tryz.func136.trans (congrArg some (by kernel_rfl))
  f319 := Tryz.func137.trans (congrArg some (by kernel_rfl))
  f320 := Tryz.func138.trans (congrArg some (by kernel_rfl))
  f321 := Tryz.func132.trans (congrArg some (by kernel_rfl))
  f322 := Tryz.func133.trans (congrArg some (by kernel_rfl))
  f337 := Tryz.func141.trans (congrArg some (by kernel_rfl))
  f338 := Tryz.func142.trans (congrArg some (by kernel_rfl))
  t0 := Tryz.underlying0
  a0 := Tryz.isAgg0
  z0 := Tryz.sizeOf0
  v0 := Tryz.zeroValue0
  t2 := Tryz.underlying2
  a2 := Tryz.isAgg2
  z2 := Tryz.sizeOf2
  v2 := Tryz.zeroValue2
  t3 := Tryz.underlying3
  a3 := Tryz.isAgg3
  z3 := Tryz.sizeOf3
  v3 := Tryz.zeroValue3
  t4 := Tryz.underlying4
  a4 := Tryz.isAgg4
  z4 := Tryz.sizeOf4
  v4 := Tryz.zeroValue4
  t5 := Tryz.underlying5
  a5 := Tryz.isAgg5
  z5 := Tryz.sizeOf5
  v5 := Tryz.zeroValue5
  t9 := Tryz.underlying9
  a9 := Tryz.isAgg9
  z9 := Tryz.sizeOf9
  v9 := Tryz.zeroValue9
  t20 := Tryz.underlying20
  a20 := Tryz.isAgg20
  z20 := Tryz.sizeOf20
  v20 := Tryz.zeroValue20
  t21 := Tryz.underlying21
  a21 := Tryz.isAgg21
  z21 := Tryz.sizeOf21
  v21 := Tryz.zeroValue21
  t37 := Tryz.underlying40
  a37 := Tryz.isAgg40
  z37 := Tryz.sizeOf40
  v37 := Tryz.zeroValue40
  t46 := Tryz.underlying131
  a46 := Tryz.isAgg131
  z46 := Tryz.sizeOf131
  v46 := Tryz.zeroValue131
  t51 := Tryz.underlying155
  a51 := Tryz.isAgg155
  z51 := Tryz.sizeOf155
  v51 := Tryz.zeroValue155
  t53 := Tryz.underlying176
  a53 := Tryz.isAgg176
  z53 := Tryz.sizeOf176
  v53 := Tryz.zeroValue176
  t75 := Tryz.underlying47
  a75 := Tryz.isAgg47
  z75 := Tryz.sizeOf47
  v75 := Tryz.zeroValue47
  t76 := Tryz.underlying48
  a76 := Tryz.isAgg48
  z76 := Tryz.sizeOf48
  v76 := Tryz.zeroValue48
  t85 := Tryz.underlying168
  a85 := Tryz.isAgg168
  z85 := Tryz.sizeOf168
  v85 := Tryz.zeroValue168
  t127 := Tryz.underlying81
  a127 := Tryz.isAgg81
  z127 := Tryz.sizeOf81
  v127 := Tryz.zeroValue81
  t143 := Tryz.underlying190
  a143 := Tryz.isAgg190
  z143 := Tryz.sizeOf190
  v143 := Tryz.zeroValue190
  t145 := Tryz.underlying192
  a145 := Tryz.isAgg192
  z145 := Tryz.sizeOf192
  v145 := Tryz.zeroValue192
  t167 := Tryz.underlying167
  a167 := Tryz.isAgg167
  z167 := Tryz.sizeOf167
  v167 := Tryz.zeroValue167
  t168 := Tryz.underlying170
  a168 := Tryz.isAgg170
  z168 := Tryz.sizeOf170
  v168 := Tryz.zeroValue170
  t171 := Tryz.underlying182
  a171 := Tryz.isAgg182
  z171 := Tryz.sizeOf182
  v171 := Tryz.zeroValue182
  t173 := Tryz.underlying185
  a173 := Tryz.isAgg185
  z173 := Tryz.sizeOf185
  v173 := Tryz.zeroValue185
  t175 := Tryz.underlying177
  a175 := Tryz.isAgg177
  z175 := Tryz.sizeOf177
  v175 := Tryz.zeroValue177
  t210 := Tryz.underlying180
  a210 := Tryz.isAgg180
  z210 := Tryz.sizeOf180
  v210 := Tryz.zeroValue180
  t212 := Tryz.underlying194
  a212 := Tryz.isAgg194
  z212 := Tryz.sizeOf194
  v212 := Tryz.zeroValue194
  t213 := Tryz.underlying195
  a213 := Tryz.isAgg195
  z213 := Tryz.sizeOf195
  t232 := Tryz.underlying201
  a232 := Tryz.isAgg201
  z232 := Tryz.sizeOf201
  v232 := Tryz.zeroValue201
  t233 := Tryz.underlying202
  a233 := Tryz.isAgg202
  z233 := Tryz.sizeOf202
  v233 := Tryz.zeroValue202
  g15 := by kernel_rfl
  g16 := by kernel_rfl
  g17 := by kernel_rfl
  g18 := by kernel_rfl
  g19 := by kernel_rfl
  t80 := Tryz.underlying50
  a80 := Tryz.isAgg50
  z80 := Tryz.sizeOf50
  v80 := Tryz.zeroValue50
  i0 := by kernel_rfl
  i2 := by kernel_rfl
  i3 := by kernel_rfl
  i4 := by kernel_rfl
  i5 := by kernel_rfl
  i9 := by kernel_rfl
  i20 := by kernel_rfl
  i21 := by kernel_rfl
  i37 := by kernel_rfl
  i46 := by kernel_rfl
  i51 := by kernel_rfl
  i53 := by kernel_rfl
  i75 := by kernel_rfl
  i76 := by kernel_rfl
  i80 := by kernel_rfl
  i85 := by kernel_rfl
  i127 := by kernel_rfl
  i143 := by kernel_rfl
  i145 := by kernel_rfl
  i167 := by kernel_rfl
  i168 := by kernel_rfl
  i171 := by kernel_rfl
  i173 := by kernel_rfl
  i175 := by kernel_rfl
  i210 := by kernel_rfl
  i212 := by kernel_rfl
  i232 := by kernel_rfl
  i233 := by kernel_rfl
  m15 := by kernel_rfl
  m16 := by kernel_rfl
  m17 := by kernel_rfl
  m18 := by kernel_rfl
  m19 := by kernel_rfl
  c0 := by kernel_rfl
  c2 := by kernel_rfl
  c3 := by kernel_rfl
  c4 := by kernel_rfl
  c5 := by kernel_rfl
  c9 := by kernel_rfl
  c20 := by kernel_rfl
  c21 := by kernel_rfl
  c37 := by kernel_rfl
  c46 := by kernel_rfl
  c51 := by kernel_rfl
  c53 := by kernel_rfl
  c75 := by kernel_rfl
  c76 := by kernel_rfl
  c80 := by kernel_rfl
  c85 := by kernel_rfl
  c127 := by kernel_rfl
  c143 := by kernel_rfl
  c145 := by kernel_rfl
  c167 := by kernel_rfl
  c168 := by kernel_rfl
  c171 := by kernel_rfl
  c173 := by kernel_rfl
  c175 := by kernel_rfl
  c210 := by kernel_rfl
  c212 := by kernel_rfl
  c213 := by kernel_rfl
  c232 := by kernel_rfl
  c233 := by kernel_rfl }
def Tryz.lays316_ren : Go.Shelf.Ren := ⟨fun | 316 => 112 | n => n, fun | 9 => 9 | 3 => 3 | 4 => 4 | 37 => 40 | 0 => 0 | 127 => 81 | 5 => 5 | n => n, fun | n => n⟩
theorem Tryz.lays316 : Go.Proofs.LaysM.n316 Tryz.prog Tryz.lays316_ren := {
  mixed := by kernel_rfl
  f316 := Tryz.func112.trans (congrArg some (by kernel_rfl))
  t0 := Tryz.underlying0
  a0 := Tryz.isAgg0
  z0 := Tryz.sizeOf0
  v0 := Tryz.zeroValue0
  t3 := Tryz.underlying3
  a3 := Tryz.isAgg3
  z3 := Tryz.sizeOf3
  v3 := Tryz.zeroValue3
  t4 := Tryz.underlying4
  a4 := Tryz.isAgg4
  z4 := Tryz.sizeOf4
  v4 := Tryz.zeroValue4
  t9 := Tryz.underlying9
  a9 := Tryz.isAgg9
  z9 := Tryz.sizeOf9
  v9 := Tryz.zeroValue9
  t37 := Tryz.underlying40
  a37 := Tryz.isAgg40
  z37 := Tryz.sizeOf40
  v37 := Tryz.zeroValue40
  t127 := Tryz.underlying81
  a127 := Tryz.isAgg81
  z127 := Tryz.sizeOf81
  v127 := Tryz.zeroValue81
  t5 := Tryz.underlying5
  a5 := Tryz.isAgg5
  z5 := Tryz.sizeOf5
  v5 := Tryz.zeroValue5
  i0 := by kernel_rfl
  i3 := by kernel_rfl
  i4 := by kernel_rfl
  i5 := by kernel_rfl
  i9 := by kernel_rfl
  i37 := by kernel_rfl
  i127 := by kernel_rfl }
def Tryz.lays143_ren : Go.Shelf.Ren := ⟨fun | 143 => 54 | 219 => 51 | 217 => 72 | 225 => 73 | 224 => 74 | 267 => 75 | 266 => 99 | 314 => 100 | n => n, fun | 9 => 9 | 3 => 3 | 4 => 4 | 5 => 5 | 46 => 131 | 146 => 156 | 51 => 155 | n => n, fun | 1 => 2 | n => n⟩
theorem Tryz.lays143 : Go.Proofs.Lays.n143 Tryz.prog Tryz.lays143_ren := {
  mixed := by kernel_rfl
  f143 := Tryz.func54.trans (congrArg some (by kernel_rfl))
  f217 := Tryz.func72.trans (congrArg some (by kernel_rfl))
  f219 := Tryz.func51.trans (congrArg some (by kernel_rfl))
  f224 := Tryz.func74.trans (congrArg some (by kernel_rfl))
  f225 := Tryz.func73.trans (congrArg some (by kernel_rfl))
  f266 := Tryz.func99.trans (congrArg some (by kernel_rfl))
  f267 := Tryz.func75.trans (congrArg some (by kernel_rfl))
  f314 := Tryz.func100.trans (congrArg some (by kernel_rfl))
  t3 := Tryz.underlying3
  a3 := Tryz.isAgg3
  z3 := Tryz.sizeOf3
  v3 := Tryz.zeroValue3
  t4 := Tryz.underlying4
  a4 := Tryz.isAgg4
  z4 := Tryz.sizeOf4
  v4 := Tryz.zeroValue4
  t5 := Tryz.underlying5
  a5 := Tryz.isAgg5
  z5 := Tryz.sizeOf5
  v5 := Tryz.zeroValue5
  t9 := Tryz.underlying9
  a9 := Tryz.isAgg9
  z9 := Tryz.sizeOf9
  v9 := Tryz.zeroValue9
  t46 := Tryz.underlying131
  a46 := Tryz.isAgg131
  z46 := Tryz.sizeOf131
  v46 := Tryz.zeroValue131
  t51 := Tryz.underlying155
  a51 := Tryz.isAgg155
  z51 := Tryz.sizeOf155
  v51 := Tryz.zeroValue155
  t146 := Tryz.underlying156
  a146 := Tryz.isAgg156
  z146 := Tryz.sizeOf156
  v146 := Tryz.zeroValue156
  g1 := by kernel_rfl }
def Tryz.lays17_ren : Go.Shelf.Ren := ⟨fun | 17 => 130 | 15 => 140 | 20 => 143 | n => n, fun | 9 => 9 | 23 => 188 | 4 => 4 | 3 => 3 | 0 => 0 | 21 => 21 | n => n, fun | n => n⟩
theorem Tryz.lays17 : Go.Proofs.LaysGw.n17 Tryz.prog Tryz.lays17_ren := {
  mixed := by kernel_rfl
  f15 := Tryz.func140.trans (congrArg some (by kernel_rfl))
  f17 := Tryz.func130.trans (congrArg some (by kernel_rfl))
  f20 := Tryz.func143.trans (congrArg some (by kernel_rfl))
  t0 := Tryz.underlying0
  a0 := Tryz.isAgg0
  z0 := Tryz.sizeOf0
  v0 := Tryz.zeroValue0
  i0 := by kernel_rfl
  t3 := Tryz.underlying3
  a3 := Tryz.isAgg3
  z3 := Tryz.sizeOf3
  v3 := Tryz.zeroValue3
  i3 := by kernel_rfl
  t4 := Tryz.underlying4
  a4 := Tryz.isAgg4
  z4 := Tryz.sizeOf4
  v4 := Tryz.zeroValue4
  i4 := by kernel_rfl
  t9 := Tryz.underlying9
  a9 := Tryz.isAgg9
  z9 := Tryz.sizeOf9
  v9 := Tryz.zeroValue9
  i9 := by kernel_rfl
  t21 := Tryz.underlying21
  a21 := Tryz.isAgg21
  z21 := Tryz.sizeOf21
  v21 := Tryz.zeroValue21
  i21 := by kernel_rfl
  t23 := Tryz.underlying188
  a23 := Tryz.isAgg188
  z23 := Tryz.sizeOf188
  v23 := Tryz.zeroValue188
  i23 := by kernel_rfl }
def Tryz.lays219_ren : Go.Shelf.Ren := ⟨fun | 219 => 51 | 217 => 72 | 225 => 73 | 224 => 74 | 267 => 75 | 266 => 99 | 314 => 100 | n => n, fun | 9 => 9 | 3 => 3 | 4 => 4 | 5 => 5 | 46 => 131 | 146 => 156 | 51 => 155 | n => n, fun | 1 => 2 | n => n⟩
theorem Tryz.lays219 : Go.Proofs.Lays.n219 Tryz.prog Tryz.lays219_ren := {
  mixed := by kernel_rfl
  f217 := Tryz.func72.trans (congrArg some (by kernel_rfl))
  f219 := Tryz.func51.trans (congrArg some (by kernel_rfl))
  f224 := Tryz.func74.trans (congrArg some (by kernel_rfl))
  f225 := Tryz.func73.trans (congrArg some (by kernel_rfl))
  f266 := Tryz.func99.trans (congrArg some (by kernel_rfl))
  f267 := Tryz.func75.trans (congrArg some (by kernel_rfl))
  f314 := Tryz.func100.trans (congrArg some (by kernel_rfl))
  t3 := Tryz.underlying3
  a3 := Tryz.isAgg3
  z3 := Tryz.sizeOf3
  v3 := Tryz.zeroValue3
  t4 := Tryz.underlying4
  a4 := Tryz.isAgg4
  z4 := Tryz.sizeOf4
  v4 := Tryz.zeroValue4
  t5 := Tryz.underlying5
  a5 := Tryz.isAgg5
  z5 := Tryz.sizeOf5
  v5 := Tryz.zeroValue5
  t9 := Tryz.underlying9
  a9 := Tryz.isAgg9
  z9 := Tryz.sizeOf9
  v9 := Tryz.zeroValue9
  t46 := Tryz.underlying131
  a46 := Tryz.isAgg131
  z46 := Tryz.sizeOf131
  v46 := Tryz.zeroValue131
  t51 := Tryz.underlying155
  a51 := Tryz.isAgg155
  z51 := Tryz.sizeOf155
  v51 := Tryz.zeroValue155
  t146 := Tryz.underlying156
  a146 := Tryz.isAgg156
  z146 := Tryz.sizeOf156
  v146 := Tryz.zeroValue156
  g1 := by kernel_rfl }
end Go.Proofs
namespace Go.Proofs.YtjkcplpmhjnahaaGreatDoor.Measure
open Go.ChangeShapes Go.WideShapes Go.ChangeAt Go.RowKit
open Go.Proofs.YtjkcplpmhjnahaaGreatDoor.M
set_option linter.unusedVariables false

theorem ret_pair {a b : Int} {v : Value} (h : a = b) : Ending.returned (.tuple #[.int .i64 a, v]) = .returned (.tuple #[.int .i64 b, v]) := by rw [h]

theorem step_any (m t n : Int) (w : World) (hm0 : 0 ≤ m) (hm1 : m < 1000003) (ht0 : 0 ≤ t) (ht1 : t < 10000) (hn0 : 0 ≤ n) (hn1 : n < 1000003) :
    Calls Tryz.prog 87 #[.int .i64 m, .int .i64 t, .int .i64 n] w fun e w' => e = .returned (.int .i64 (stp t m n)) ∧ w' = w := by
  have hp0 : 0 ≤ t * m := Int.mul_nonneg ht0 hm0
  have hp1 : t * m ≤ 10000 * 1000003 := Int.mul_le_mul (by omega) (by omega) hm0 (by omega)
  go_enter Tryz.func87, Tryz.ntmps87
  go_wp2
  go_ret
  exact ⟨rfl, rfl⟩

theorem is_any (n : Int) (w : World) :
    Calls Tryz.prog 110 #[.int .i64 n] w fun e w' => e = .returned (.bool (isM n)) ∧ w' = w := by
  by_cases h0 : 0 ≤ n
  · by_cases h1 : n < 1000003
    · rw [isM_iff.2 ⟨h0, h1⟩]
      go_enter Tryz.func110, Tryz.ntmps110
      go_wp2
      go_ret
      exact ⟨rfl, rfl⟩
    · rw [isM_false.2 (by omega)]
      go_enter Tryz.func110, Tryz.ntmps110
      go_wp2
      go_ret
      exact ⟨rfl, rfl⟩
  · rw [isM_false.2 (by omega)]
    go_enter Tryz.func110, Tryz.ntmps110
    go_wp2
    go_ret
    exact ⟨rfl, rfl⟩

theorem two_ok (a b : Int) (w : World) (ha : isM a = true) (hb : isM b = true) :
    Calls Tryz.prog 106 #[.int .i64 a, .int .i64 b] w fun e w' => e = .returned (.tuple #[.int .i64 (stp 7919 a b), .nilIface]) ∧ w' = w := by
  have h1 := isM_iff.1 ha
  have h2 := isM_iff.1 hb
  obtain ⟨a0, a1⟩ := h1
  obtain ⟨b0, b1⟩ := h2
  go_enter Tryz.func106, Tryz.ntmps106
  go_wp2_with (first | (go_at_call 110; refine (is_any _ _).mono ?_; rintro e w' ⟨rfl, rfl⟩) | (go_at_call 87; refine (step_any _ _ _ _ (by omega) (by omega) (by omega) (by omega) (by omega) (by omega)).mono ?_; rintro e w' ⟨rfl, rfl⟩))
  go_ret2
  exact ⟨rfl, rfl⟩

theorem two_bad (a b : Int) (w : World) (h : isM a = false ∨ isM b = false) :
    Calls Tryz.prog 106 #[.int .i64 a, .int .i64 b] w fun e w' => e = .returned (.tuple #[.int .i64 0, .iface 98 (.int .i64 1)]) ∧ w' = w := by
  cases ha : isM a with
  | false =>
    go_enter Tryz.func106, Tryz.ntmps106
    go_wp2_with (go_at_call 110; refine (is_any _ _).mono ?_; rintro e w' ⟨rfl, rfl⟩)
    go_ret2
    exact ⟨rfl, rfl⟩
  | true =>
    have hb : isM b = false := by rcases h with h | h; · rw [h] at ha; cases ha
                                  · exact h
    go_enter Tryz.func106, Tryz.ntmps106
    go_wp2_with (go_at_call 110; refine (is_any _ _).mono ?_; rintro e w' ⟨rfl, rfl⟩)
    go_ret2
    exact ⟨rfl, rfl⟩

theorem row_full (a : Option Addr) (n cap : Nat) (w : World) (hn : 30 < n) (hm : n ≤ maxLen) :
    Calls Tryz.prog 111 #[.slice a n cap] w fun e w' => e = .returned (.tuple #[.int .i64 0, .iface 98 (.int .i64 4)]) ∧ w' = w := by
  unfold maxLen at hm
  go_enter Tryz.func111, Tryz.ntmps111
  go_wp2
  go_ret2
  exact ⟨rfl, rfl⟩

set_option maxHeartbeats 400000 in
theorem row_le (a : Option Addr) (xs : List Int) (n cap : Nat) (w : World) (hn : n = xs.length) (hl : n ≤ 30) (hr : Row w a xs) :
    Calls Tryz.prog 111 #[.slice a n cap] w fun e w' =>
      ((okAll xs = true ∧ e = .returned (.tuple #[.int .i64 (allFrom 0 xs), .nilIface])) ∨ (okAll xs = false ∧ e = .returned (.tuple #[.int .i64 0, .iface 98 (.int .i64 1)]))) ∧ w' = w := by
  have hlen : ∀ k, k < n → ∃ x, xs[k]? = some x := fun k hk => ⟨xs[k]'(by omega), List.getElem?_eq_getElem (by omega)⟩
  have HL : Hid (∀ k, k < n → ∃ x, xs[k]? = some x) := hlen
  have HN : Hid (n = xs.length) := hn
  have HR : Hid (Row w a xs) := hr
  clear hlen hn hr
  go_enter Tryz.func111, Tryz.ntmps111
  go_wp2
  go_loop [4, 15] (fun m i => ∃ k : Nat, k ≤ n ∧ i = .int .i64 k ∧ m = .int .i64 (allFrom 0 (xs.take k)) ∧ ∀ (j : Nat) (x : Int), j < k → xs[j]? = some x → isM x = true) (fun _ i => n - (intOf i).toNat)
  case atStart => exact ⟨0, by omega, rfl, rfl, fun j x h => by omega⟩
  case round =>
    obtain ⟨k, hk, rfl, rfl, hall⟩ := hrel
    have HA : Hid (∀ (j : Nat) (x : Int), j < k → xs[j]? = some x → isM x = true) := hall
    clear hall
    have hrg := allFrom_range 0 (xs.take k) (by omega) (by omega)
    obtain ⟨hr0, hr1⟩ := hrg
    by_cases hlt : k < n
    · obtain ⟨x, hx⟩ := HL.out k hlt
      have HX : Hid (xs[k]? = some x) := hx
      clear hx
      have hrow : ∃ b off, a = some ⟨b, off, none⟩ ∧ w.cell? ⟨b, off + k, none⟩ = some (.int .i64 x) := by
        rcases HR.out with h | ⟨b, off, h1, h2⟩
        · have := HX.out; rw [h] at this; simp at this
        · exact ⟨b, off, h1, h2 k x HX.out⟩
      obtain ⟨b, off, rfl, hc⟩ := hrow
      cases hmx : isM x with
      | true =>
        go_wp2_with (go_at_call 106; refine (two_ok _ _ _ (isM_iff.2 ⟨by assumption, by assumption⟩) (by assumption)).mono ?_; rintro e w' ⟨rfl, rfl⟩)
        go_round
        case rel => exact ⟨k + 1, by omega, by go_num, by rw [allFrom_take HX.out], fun j y hj hy => by
          by_cases e : j = k
          · subst e; rw [HX.out] at hy; cases hy; exact hmx
          · exact HA.out j y (by omega) hy⟩
        case measure => simp [intOf]; omega
      | false =>
        go_wp2_with (go_at_call 106; refine (two_bad _ _ _ (Or.inr (by assumption))).mono ?_; rintro e w' ⟨rfl, rfl⟩)
        go_ret2
        exact ⟨Or.inr ⟨okAll_not HX.out hmx, rfl⟩, rfl⟩
    · go_wp2
      go_ret2
      have hkn : k = n := by omega
      have htk : xs.take k = xs := List.take_of_length_le (by have := HN.out; omega)
      refine ⟨Or.inl ⟨okAll_of fun j x hx => HA.out j x ?_ hx, ?_⟩, rfl⟩
      · have := (List.getElem?_eq_some_iff.1 hx).1
        have := HN.out
        omega
      · exact ret_pair (by rw [htk])

theorem row_ok (a : Option Addr) (xs : List Int) (n cap : Nat) (w : World) (hn : n = xs.length) (hl : n ≤ 30) (hr : Row w a xs) (ho : okAll xs = true) :
    Calls Tryz.prog 111 #[.slice a n cap] w fun e w' => e = .returned (.tuple #[.int .i64 (allFrom 0 xs), .nilIface]) ∧ w' = w := by
  refine (row_le a xs n cap w hn hl hr).mono ?_
  rintro e w' ⟨⟨_, he⟩ | ⟨hb, _⟩, hw⟩
  · exact ⟨he, hw⟩
  · rw [ho] at hb; cases hb
theorem row_bad (a : Option Addr) (xs : List Int) (n cap : Nat) (w : World) (hn : n = xs.length) (hl : n ≤ 30) (hr : Row w a xs) (ho : okAll xs = false) :
    Calls Tryz.prog 111 #[.slice a n cap] w fun e w' => e = .returned (.tuple #[.int .i64 0, .iface 98 (.int .i64 1)]) ∧ w' = w := by
  refine (row_le a xs n cap w hn hl hr).mono ?_
  rintro e w' ⟨⟨hb, _⟩ | ⟨_, he⟩, hw⟩
  · rw [ho] at hb; cases hb
  · exact ⟨he, hw⟩

theorem all_full (a : Option Addr) (n cap : Nat) (w : World) (hn : 30 < n) (hm : n ≤ maxLen) :
    Calls Tryz.prog 86 #[.slice a n cap] w fun e w' => e = .returned (.tuple #[.int .i64 0, .iface 98 (.int .i64 4)]) ∧ w' = w := by
  go_enter Tryz.func86, Tryz.ntmps86
  go_wp2_with (go_at_call 111; refine (row_full _ _ _ _ hn hm).mono ?_; rintro e w' ⟨rfl, rfl⟩)
  go_ret2
  exact ⟨rfl, rfl⟩
theorem all_ok (a : Option Addr) (xs : List Int) (n cap : Nat) (w : World) (hn : n = xs.length) (hl : n ≤ 30) (hr : Row w a xs) (ho : okAll xs = true) :
    Calls Tryz.prog 86 #[.slice a n cap] w fun e w' => e = .returned (.tuple #[.int .i64 (allFrom 0 xs), .nilIface]) ∧ w' = w := by
  have c := row_ok a xs n cap w hn hl hr ho
  have C : Hid (Calls Tryz.prog 111 #[.slice a n cap] w fun e w' => e = .returned (.tuple #[.int .i64 (allFrom 0 xs), .nilIface]) ∧ w' = w) := c
  clear c hn ho
  go_enter Tryz.func86, Tryz.ntmps86
  go_wp2_with (go_at_call 111; refine C.out.mono ?_; rintro e w' ⟨rfl, rfl⟩)
  go_ret2
  exact ⟨rfl, rfl⟩
theorem all_bad (a : Option Addr) (xs : List Int) (n cap : Nat) (w : World) (hn : n = xs.length) (hl : n ≤ 30) (hr : Row w a xs) (ho : okAll xs = false) :
    Calls Tryz.prog 86 #[.slice a n cap] w fun e w' => e = .returned (.tuple #[.int .i64 0, .iface 98 (.int .i64 1)]) ∧ w' = w := by
  have c := row_bad a xs n cap w hn hl hr ho
  have C : Hid (Calls Tryz.prog 111 #[.slice a n cap] w fun e w' => e = .returned (.tuple #[.int .i64 0, .iface 98 (.int .i64 1)]) ∧ w' = w) := c
  clear c hn ho
  go_enter Tryz.func86, Tryz.ntmps86
  go_wp2_with (go_at_call 111; refine C.out.mono ?_; rintro e w' ⟨rfl, rfl⟩)
  go_ret2
  exact ⟨rfl, rfl⟩

theorem of_full (s : ByteArray) (w : World) (hn : 24 < s.size) (hm : s.size ≤ 1152921504606846976) :
    Calls Tryz.prog 60 #[.string s] w fun e w' => e = .returned (.tuple #[.int .i64 0, .iface 98 (.int .i64 4)]) ∧ w' = w := by
  go_enter Tryz.func60, Tryz.ntmps60
  go_wp2
  go_ret2
  exact ⟨rfl, rfl⟩

set_option maxHeartbeats 400000 in
theorem of_ok (s : ByteArray) (w : World) (hl : s.size ≤ 24) :
    Calls Tryz.prog 60 #[.string s] w fun e w' => e = .returned (.tuple #[.int .i64 (ofFrom 1 s.data.toList), .nilIface]) ∧ w' = w := by
  go_enter Tryz.func60, Tryz.ntmps60
  go_wp2
  go_loop [4, 12] (fun m i => ∃ k : Nat, k ≤ s.size ∧ i = .int .i64 k ∧ m = .int .i64 (ofFrom 1 (s.data.toList.take k))) (fun _ i => s.size - (intOf i).toNat)
  case atStart => exact ⟨0, by omega, rfl, rfl⟩
  case round =>
    obtain ⟨k, hk, rfl, rfl⟩ := hrel
    have hrg := ofFrom_range 1 (s.data.toList.take k) (by omega) (by omega)
    obtain ⟨hr0, hr1⟩ := hrg
    by_cases hlt : k < s.size
    · have hb := (s[k]).toNat_lt
      have HX : Hid (s.data.toList[k]? = some s[k]) := by show s.data.toList[k]? = some s[k]; rw [List.getElem?_eq_getElem (by simpa using hlt)]; rfl
      go_wp2_with (go_at_call 87; refine (step_any _ _ _ _ (by omega) (by omega) (by omega) (by omega) (by omega) (by omega)).mono ?_; rintro e w' ⟨rfl, rfl⟩)
      go_round
      case rel => exact ⟨k + 1, by omega, by go_num, by rw [ofFrom_take HX.out]⟩
      case measure => simp [intOf]; omega
    · go_wp2
      go_ret2
      have htk : s.data.toList.take k = s.data.toList := List.take_of_length_le (by simp; omega)
      exact ⟨ret_pair (by rw [htk]), rfl⟩

theorem of_any (s : ByteArray) (w : World) (hm : s.size ≤ 1152921504606846976) :
    Calls Tryz.prog 60 #[.string s] w fun e w' => e = .returned (.tuple #[.int .i64 (ofV s), errV 98 (ofC s)]) ∧ w' = w := by
  unfold ofV ofC
  by_cases h : 24 < s.size
  · rw [if_pos h, if_pos h]; exact of_full s w h hm
  · rw [if_neg h, if_neg h]; exact of_ok s w (by omega)
theorem two_any (a b : Int) (w : World) :
    Calls Tryz.prog 106 #[.int .i64 a, .int .i64 b] w fun e w' => e = .returned (.tuple #[.int .i64 (twoV a b), errV 98 (twoC a b)]) ∧ w' = w := by
  by_cases h : isM a = true ∧ isM b = true
  · rw [twoV_ok h.1 h.2, twoC_ok h.1 h.2]; exact two_ok a b w h.1 h.2
  · rw [twoV_bad h, twoC_bad h]
    refine two_bad a b w ?_
    cases ha : isM a with
    | false => exact Or.inl rfl
    | true => cases hb : isM b with
      | false => exact Or.inr rfl
      | true => exact absurd ⟨ha, hb⟩ h
theorem all_any (a : Option Addr) (xs : List Int) (n cap : Nat) (w : World) (hn : n = xs.length) (hm : n ≤ maxLen) (hr : Row w a xs) :
    Calls Tryz.prog 86 #[.slice a n cap] w fun e w' => e = .returned (.tuple #[.int .i64 (allV xs), errV 98 (allC xs)]) ∧ w' = w := by
  unfold allV allC
  by_cases h : 30 < xs.length
  · rw [if_pos h, if_pos h]; exact all_full a n cap w (by omega) hm
  · rw [if_neg h, if_neg h]
    cases ho : okAll xs with
    | true => exact all_ok a xs n cap w hn (by omega) hr ho
    | false => exact all_bad a xs n cap w hn (by omega) hr ho
end Go.Proofs.YtjkcplpmhjnahaaGreatDoor.Measure
namespace Go.Proofs.YtjkcplpmhjnahaaGreatDoor.Image
open Go.ChangeShapes Go.WideShapes Go.ChangeAt Go.RowKit
open Go.Proofs.YtjkcplpmhjnahaaGreatDoor.M
set_option linter.unusedVariables false

theorem off_any (r : Nat) (w : World) : Calls Tryz.prog 131 #[.int .i32 r] w fun e w' => e = .returned (.bool (offR r)) ∧ w' = w := by
  by_cases h1 : r < 97
  · have hz : (r : Int) < 97 := by omega
    have E := hide (show offR r = true by unfold offR; simp [h1])
    clear h1
    go_enter Tryz.func131, Tryz.ntmps131
    go_wp2
    go_ret
    exact ⟨by rw [E.out]; rfl, rfl⟩
  · have hz : ¬ (r : Int) < 97 := by omega
    by_cases h2 : 122 < r
    · have hy : (122 : Int) < r := by omega
      have E := hide (show offR r = true by unfold offR; simp [h1, h2])
      clear h1 h2
      go_enter Tryz.func131, Tryz.ntmps131
      go_wp2
      go_ret
      exact ⟨by rw [E.out]; rfl, rfl⟩
    · have hy : ¬ (122 : Int) < r := by omega
      have E := hide (show offR r = false by unfold offR; simp [h1, h2])
      clear h1 h2
      go_enter Tryz.func131, Tryz.ntmps131
      go_wp2
      go_ret
      exact ⟨by rw [E.out]; rfl, rfl⟩

theorem pred (w : World) : PredAt Tryz.prog 131 #[] encR offR w := fun W r _ =>
  (off_any r W).mono fun _ _ ⟨he, hw⟩ => ⟨he, 0, hw⟩

theorem contains_any (s : ByteArray) (w : World) :
    Calls Tryz.prog 130 #[.string s, .func (.func 131) #[] #[]] w fun e w' => e = .returned (.bool (!letS s)) ∧ Below w.heap.size w w' := by
  have h := Any.strings_ContainsFunc Tryz.lays17 131 #[] (enters_of Tryz.func131 (by kernel_rfl) rfl) offR s w (pred w)
  rw [idx_letters] at h
  exact h

theorem letters_any (s : ByteArray) (w : World) :
    Calls Tryz.prog 122 #[.string s] w fun e w' => e = .returned (.bool (letS s)) ∧ Below w.heap.size w w' := by
  go_enter Tryz.func122, Tryz.ntmps122
  go_wp2_with (go_at_call 130; refine (contains_any s _).mono ?_; rintro e w' ⟨rfl, hb⟩)
  go_ret
  exact ⟨by simp, hb⟩

theorem empty_is {s : ByteArray} (h : s.size = 0) : s.toList.isEmpty = true := by
  rw [Lib.toList_data]
  have := len_size s
  cases e : s.data.toList with
  | nil => rfl
  | cons a l => rw [e, List.length_cons] at this; omega
theorem empty_not {s : ByteArray} (h : ¬ s.size = 0) : s.toList.isEmpty = false := by
  rw [Lib.toList_data]
  have := len_size s
  cases e : s.data.toList with
  | nil => rw [e, List.length_nil] at this; omega
  | cons a l => rfl

theorem version_any (v : Int) (w : World) : Calls Tryz.prog 91 #[.int .i64 v] w fun e w' => e = .returned (.bool (verB v)) ∧ w' = w := by
  by_cases h1 : 1 ≤ v
  · by_cases h2 : v ≤ 1000
    · have E := hide (verB_is h1 h2)
      go_enter Tryz.func91, Tryz.ntmps91
      go_wp2
      go_ret
      exact ⟨by rw [E.out]; rfl, rfl⟩
    · have E := hide (verB_not (v := v) (Or.inr (by omega)))
      go_enter Tryz.func91, Tryz.ntmps91
      go_wp2
      go_ret
      exact ⟨by rw [E.out]; rfl, rfl⟩
  · have E := hide (verB_not (v := v) (Or.inl (by omega)))
    go_enter Tryz.func91, Tryz.ntmps91
    go_wp2
    go_ret
    exact ⟨by rw [E.out]; rfl, rfl⟩

end Go.Proofs.YtjkcplpmhjnahaaGreatDoor.Image
namespace Go.Proofs.YtjkcplpmhjnahaaGreatDoor.M
open Go.RowKit

theorem decFrom_ge : ∀ (l : List UInt8) (acc m : Nat), Lib.decFrom acc l = some m → acc ≤ m
  | [], acc, m, h => by simp only [Lib.decFrom, Option.some.injEq] at h; omega
  | b :: r, acc, m, h => by
    simp only [Lib.decFrom] at h
    cases hd : Lib.digitVal b with
    | none => rw [hd] at h; cases h
    | some d => rw [hd] at h; have := decFrom_ge r _ m h; omega
theorem decFrom_snoc : ∀ (l : List UInt8) (acc : Nat) (b : UInt8), Lib.decFrom acc (l ++ [b]) = (Lib.decFrom acc l).bind fun m => (Lib.digitVal b).map fun d => m * 10 + d
  | [], acc, b => by
    simp only [List.nil_append, Lib.decFrom, Option.bind_some]
    cases Lib.digitVal b <;> rfl
  | c :: r, acc, b => by
    simp only [List.cons_append, Lib.decFrom]
    cases Lib.digitVal c with
    | none => rfl
    | some d => exact decFrom_snoc r _ b
theorem digit_ofNat {d : Nat} (h : d < 10) : Lib.digitVal (UInt8.ofNat (48 + d)) = some d := by
  have e : (UInt8.ofNat (48 + d)).toNat = 48 + d := by simp; omega
  unfold Lib.digitVal
  rw [e, if_pos (by omega)]
  congr 1
  omega
theorem ofNat_digit {b : UInt8} {d : Nat} (h : Lib.digitVal b = some d) : UInt8.ofNat (48 + d) = b ∧ d < 10 := by
  obtain ⟨h1, h2, rfl⟩ := Lib.digitVal_eq h
  refine ⟨?_, by omega⟩
  rw [show 48 + (b.toNat - 48) = b.toNat by omega]
  exact UInt8.ofNat_toNat
theorem dec_small {n : Nat} (h : n < 10) : Lib.decDigits n = [UInt8.ofNat (48 + n)] := by rw [Lib.decDigits, dif_pos h]
theorem dec_big {n : Nat} (h : ¬ n < 10) : Lib.decDigits n = Lib.decDigits (n / 10) ++ [UInt8.ofNat (48 + n % 10)] := by rw [Lib.decDigits, dif_neg h]
theorem dec_ne (n : Nat) : Lib.decDigits n ≠ [] := by
  by_cases h : n < 10
  · rw [dec_small h]; simp
  · rw [dec_big h]; simp
theorem decFrom_dec : ∀ (k n : Nat), n ≤ k → Lib.decFrom 0 (Lib.decDigits n) = some n
  | k, n, hk => by
    by_cases h : n < 10
    · rw [dec_small h]
      simp only [Lib.decFrom, digit_ofNat h]
      congr 1
      omega
    · cases k with
      | zero => omega
      | succ k =>
        rw [dec_big h, decFrom_snoc, decFrom_dec k (n / 10) (by omega), Option.bind_some, digit_ofNat (Nat.mod_lt _ (by omega))]
        simp only [Option.map_some]
        congr 1
        omega
theorem head_snoc {α : Type} {l : List α} (h : l ≠ []) (b : α) : (l ++ [b]).head? = l.head? := by
  cases l with
  | nil => exact absurd rfl h
  | cons a r => rfl
theorem dec_head : ∀ (k n : Nat), n ≤ k → (Lib.decDigits n).head? = some 48 → n = 0
  | k, n, hk, hh => by
    by_cases h : n < 10
    · rw [dec_small h] at hh
      have e := Option.some.inj hh
      have e2 : (UInt8.ofNat (48 + n)).toNat = 48 := by rw [e]; rfl
      have e3 : (UInt8.ofNat (48 + n)).toNat = 48 + n := by simp; omega
      omega
    · cases k with
      | zero => omega
      | succ k =>
        rw [dec_big h, head_snoc (dec_ne _)] at hh
        have := dec_head k (n / 10) (by omega) hh
        omega
/-- A number of at most four digits, without a needless nought. -/
def numO (l : List UInt8) : Option Nat := if l = [] ∨ 4 < l.length ∨ (l.head? = some 48 ∧ 1 < l.length) then none else Lib.decFrom 0 l
theorem numO_dec {n : Nat} (h : (Lib.decDigits n).length ≤ 4) : numO (Lib.decDigits n) = some n := by
  unfold numO
  rw [if_neg, decFrom_dec n n (Nat.le_refl _)]
  intro hh
  rcases hh with hh | hh | ⟨h1, h2⟩
  · exact dec_ne n hh
  · omega
  · have := dec_head n n (Nat.le_refl _) h1
    subst this
    rw [dec_small (by omega)] at h2
    simp at h2
theorem dec_of : ∀ (k : Nat) (l : List UInt8) (n : Nat), l.length ≤ k → l ≠ [] → (l.head? = some 48 → l.length = 1) → Lib.decFrom 0 l = some n → Lib.decDigits n = l
  | 0, l, n, hk, hne, _, _ => by
    cases l with
    | nil => exact absurd rfl hne
    | cons a r => simp at hk
  | k + 1, l, n, hk, hne, hz, hd => by
    obtain ⟨r, b, rfl⟩ : ∃ r b, l = r ++ [b] := ⟨l.dropLast, l.getLast hne, (List.dropLast_concat_getLast hne).symm⟩
    rw [decFrom_snoc] at hd
    cases hr : Lib.decFrom 0 r with
    | none => rw [hr] at hd; cases hd
    | some m =>
      rw [hr, Option.bind_some] at hd
      cases hb : Lib.digitVal b with
      | none => rw [hb] at hd; cases hd
      | some d =>
        rw [hb] at hd
        have hn : m * 10 + d = n := Option.some.inj hd
        obtain ⟨eb, hd10⟩ := ofNat_digit hb
        by_cases hre : r = []
        · subst hre
          simp only [Lib.decFrom, Option.some.injEq] at hr
          subst hr
          rw [show n = d by omega, dec_small hd10, eb]
          rfl
        · have hh := head_snoc hre b
          have hr48 : r.head? ≠ some 48 := by
            intro h48
            have := hz (by rw [hh]; exact h48)
            cases r with
            | nil => exact hre rfl
            | cons a t => simp at this
          have ih := dec_of k r m (by simp at hk; omega) hre (fun h => absurd h hr48) hr
          have hm : 1 ≤ m := by
            cases r with
            | nil => exact absurd rfl hre
            | cons a t =>
              simp only [Lib.decFrom] at hr
              cases ha : Lib.digitVal a with
              | none => rw [ha] at hr; cases hr
              | some x =>
                rw [ha] at hr
                have hx := decFrom_ge t _ m hr
                obtain ⟨ea, _⟩ := ofNat_digit ha
                have : x ≠ 0 := by
                  intro h0
                  subst h0
                  apply hr48
                  rw [← ea]
                  rfl
                omega
          rw [dec_big (by omega), show n / 10 = m by omega, show n % 10 = d by omega, ih, eb]
theorem itoa_nat (n : Nat) : Lib.itoa n = Lib.decDigits n := by
  unfold Lib.itoa
  rw [if_neg (by omega)]
  rfl
theorem numO_some {l : List UInt8} {n : Nat} (h : numO l = some n) : l ≠ [] ∧ l.length ≤ 4 ∧ (l.head? = some 48 → l.length = 1) ∧ Lib.decFrom 0 l = some n := by
  unfold numO at h
  split at h
  · cases h
  · rename_i hc
    have hne : l ≠ [] := fun e => hc (Or.inl e)
    refine ⟨hne, by omega, fun h48 => ?_, h⟩
    have : ¬ 1 < l.length := fun h1 => hc (Or.inr (Or.inr ⟨h48, h1⟩))
    cases l with
    | nil => exact absurd rfl hne
    | cons a r => simp at this ⊢; exact this
theorem numO_itoa {l : List UInt8} {n : Nat} (h : numO l = some n) : Lib.itoa n = l := by
  obtain ⟨h1, h2, h3, h4⟩ := numO_some h
  rw [itoa_nat]
  exact dec_of l.length l n (Nat.le_refl _) h1 h3 h4
theorem numO_atoi {l : List UInt8} {n : Nat} (h : numO l = some n) : Lib.atoi l = some (n : Int) := by
  obtain ⟨h1, h2, h3, h4⟩ := numO_some h
  cases l with
  | nil => exact absurd rfl h1
  | cons b r =>
    have hb : ∃ d, Lib.digitVal b = some d := by
      simp only [Lib.decFrom] at h4
      cases hd : Lib.digitVal b with
      | none => rw [hd] at h4; cases h4
      | some d => exact ⟨d, rfl⟩
    obtain ⟨d, hd⟩ := hb
    obtain ⟨e1, e2, _⟩ := Lib.digitVal_eq hd
    have n45 : ¬ (b == 45) = true := by
      intro e
      have e := beq_iff_eq.1 e
      subst e
      revert e1
      decide
    have n43 : ¬ (b == 43) = true := by
      intro e
      have e := beq_iff_eq.1 e
      subst e
      revert e1
      decide
    show (if (b == 45) = true then _ else _) = _
    rw [if_neg n45, if_neg n43]
    unfold Lib.decNat
    rw [if_neg (by simp), h4]
    rfl
theorem numO_lt {l : List UInt8} {n : Nat} (h : numO l = some n) : n < 10000 := by
  obtain ⟨h1, h2, h3, h4⟩ := numO_some h
  have := Lib.decFrom_lt l 0 n h4
  have hp : 10 ^ l.length ≤ 10 ^ 4 := Nat.pow_le_pow_right (by omega) h2
  omega

/-- A text cut at its blanks; acc: what stands since the last one. -/
def cutAcc (acc : List UInt8) : List UInt8 → List (List UInt8)
  | [] => [acc]
  | b :: l => if b = 32 then acc :: cutAcc [] l else cutAcc (acc ++ [b]) l
def cutL (l : List UInt8) : List (List UInt8) := cutAcc [] l
theorem cut_none : ∀ (l acc : List UInt8), (32 : UInt8) ∉ l → cutAcc acc l = [acc ++ l]
  | [], acc, _ => by simp [cutAcc]
  | b :: l, acc, h => by
    have hb : ¬ b = 32 := fun e => h (by simp [e])
    rw [cutAcc, if_neg hb, cut_none l _ (fun hm => h (by simp [hm]))]
    simp
theorem cut_hit : ∀ (a acc r : List UInt8), (32 : UInt8) ∉ a → cutAcc acc (a ++ 32 :: r) = (acc ++ a) :: cutAcc [] r
  | [], acc, r, _ => by simp [cutAcc]
  | b :: a, acc, r, h => by
    have hb : ¬ b = 32 := fun e => h (by simp [e])
    rw [List.cons_append, cutAcc, if_neg hb, cut_hit a _ r (fun hm => h (by simp [hm]))]
    simp
theorem cut_len : ∀ (l acc : List UInt8), (cutAcc acc l).length ≤ l.length + 1 ∧ 1 ≤ (cutAcc acc l).length
  | [], acc => by simp [cutAcc]
  | b :: l, acc => by
    rw [cutAcc]
    split
    · have := cut_len l []
      simp only [List.length_cons]
      omega
    · have := cut_len l (acc ++ [b])
      simp only [List.length_cons]
      omega
theorem index_parts : ∀ (l : List UInt8) (c : UInt8), (Lib.indexByte l c = -1 ∧ c ∉ l) ∨ ∃ a r, l = a ++ c :: r ∧ c ∉ a ∧ Lib.indexByte l c = a.length
  | [], c => Or.inl ⟨rfl, by simp⟩
  | b :: l, c => by
    by_cases hb : b = c
    · subst hb
      exact Or.inr ⟨[], l, rfl, by simp, by simp [Lib.indexByte]⟩
    · have hbc : ¬ (b == c) = true := by simpa using hb
      rcases index_parts l c with ⟨h1, h2⟩ | ⟨a, r, rfl, h2, h3⟩
      · refine Or.inl ⟨?_, by simp [h2, Ne.symm hb]⟩
        rw [Lib.indexByte, if_neg hbc, h1]
        rfl
      · refine Or.inr ⟨b :: a, r, rfl, by simp [h2, Ne.symm hb], ?_⟩
        rw [Lib.indexByte, if_neg hbc, h3, if_neg (by simp)]
        simp
theorem split_cut : ∀ (k : Nat) (l : List UInt8), ((cutL l).length ≤ k + 1 → Lib.splitK [32] 0 k l = cutL l) ∧ (k + 1 < (cutL l).length → (Lib.splitK [32] 0 k l).length = k + 1)
  | 0, l => by
    rcases index_parts l 32 with ⟨h1, h2⟩ | ⟨a, r, rfl, h2, h3⟩
    · have e := cut_none l [] h2
      unfold cutL
      rw [e]
      simp [Lib.splitK]
    · have e := cut_hit a [] r h2
      have := cut_len r []
      unfold cutL
      rw [e]
      simp only [List.length_cons]
      exact ⟨fun h => by omega, fun _ => rfl⟩
  | k + 1, l => by
    rcases index_parts l 32 with ⟨h1, h2⟩ | ⟨a, r, rfl, h2, h3⟩
    · have e := cut_none l [] h2
      unfold cutL
      rw [e, Lib.splitK, Lib.index_one, h1, if_pos (by decide)]
      simp
    · have e := cut_hit a [] r h2
      obtain ⟨i1, i2⟩ := split_cut k r
      unfold cutL at i1 i2 ⊢
      rw [e, Lib.splitK, Lib.index_one, h3, if_neg (by simp)]
      have e1 : (a ++ 32 :: r).take (((a.length : Nat) : Int).toNat + 0) = a := by simp
      have e2 : (a ++ 32 :: r).drop (((a.length : Nat) : Int).toNat + [(32 : UInt8)].length) = r := by
        rw [show ((a.length : Nat) : Int).toNat + [(32 : UInt8)].length = a.length + 1 by simp, ← List.drop_drop]
        simp
      rw [e1, e2]
      simp only [List.length_cons, List.nil_append]
      exact ⟨fun h => by rw [i1 (by omega)], fun h => by rw [i2 (by omega)]⟩
/-- What strings.SplitN gives: all parts, or four where there are more. -/
def spcB : ByteArray := { data := #[32] }
def partsB (s : ByteArray) : List ByteArray := Lib.splitB spcB 0 (min 4 (s.size + 1) - 1) s
theorem parts_cut (s : ByteArray) : (partsB s).map (fun x => x.data.toList) = cutL s.data.toList ∨ ((partsB s).length = 4 ∧ 4 < (cutL s.data.toList).length) := by
  have hd := Lib.splitB_data spcB 0 (min 4 (s.size + 1) - 1) s
  have hb : spcB.data.toList = [32] := rfl
  rw [hb] at hd
  have hl := len_size s
  have hc := cut_len s.data.toList []
  obtain ⟨i1, i2⟩ := split_cut (min 4 (s.size + 1) - 1) s.data.toList
  by_cases h : (cutL s.data.toList).length ≤ min 4 (s.size + 1) - 1 + 1
  · left
    rw [← i1 h]
    exact hd
  · right
    have h4 := i2 (by omega)
    rw [← hd, List.length_map] at h4
    unfold cutL at h ⊢
    have e : min 4 (s.size + 1) = 4 := by omega
    rw [e] at h
    refine ⟨?_, by omega⟩
    have : (partsB s).length = min 4 (s.size + 1) - 1 + 1 := h4
    omega
end Go.Proofs.YtjkcplpmhjnahaaGreatDoor.M
namespace Go.Proofs.YtjkcplpmhjnahaaGreatDoor.Image
open Go.ChangeShapes Go.WideShapes Go.ChangeAt Go.RowKit
open Go.Proofs.YtjkcplpmhjnahaaGreatDoor.M
set_option linter.unusedVariables false

/-- The table of powers of ten is there, and the error of a text that is no number is some error's value. -/
def Has (w : World) : Prop :=
  (7 < w.heap.size ∧ ∀ nm : String, Tryz.prog.globalNamed nm = some 7 → w.var? Tryz.prog nm = some (Lib.pow10Tab.map fun z => Value.int .u64 z).toArray) ∧
    ∃ tp p, w.cell? ⟨5, 0, none⟩ = some (.iface tp p)
theorem Has.below {w w' : World} (h : Has w) (hb : Below w.heap.size w w') : Has w' := by
  obtain ⟨⟨h1, h2⟩, tp, p, h3⟩ := h
  refine ⟨⟨Nat.lt_of_lt_of_le h1 hb.size, fun nm hg => var?_below hb hg h1 (h2 nm hg)⟩, tp, p, ?_⟩
  rw [hb.cell (p := ⟨5, 0, none⟩) (World.block_lt_of_cell? w _ h3)]
  exact h3

theorem itoa_any (n : Int) (w : World) (h0 : -9223372036854775808 ≤ n) (h1 : n ≤ 9223372036854775807) (hh : Has w) :
    Calls Tryz.prog 80 #[.int .i64 n] w fun e w' => e = .returned (.string { data := (Lib.itoa n).toArray }) ∧ Below w.heap.size w w' :=
  (Any.strconv_Itoa Tryz.lays171 n h0 h1 w (hh.1.2 _ (by kernel_rfl))).mono fun _ _ ⟨he, k, os, hw⟩ => ⟨he, by
    rw [hw]
    exact ⟨rfl, rfl, rfl, by show w.heap.size ≤ (w.heap ++ os).size; rw [Array.size_append]; omega, fun j hj => by show (w.heap ++ os)[j]? = w.heap[j]?; rw [Array.getElem?_append_left hj]⟩⟩
theorem atoi_some (s : ByteArray) (n : Int) (w : World) (hl : s.size ≤ 18) (h : Lib.atoi s.data.toList = some n) :
    Calls Tryz.prog 79 #[.string s] w fun e w' => e = .returned (.tuple #[.int .i64 n, .nilIface]) ∧ Below w.heap.size w w' :=
  (Any.strconv_Atoi (ρ := Tryz.lays172_ren) { Tryz.lays172 with } s n hl h w).mono fun _ _ ⟨he, t, hw⟩ => ⟨he, by rw [hw]; exact Lib.bytesWorld_below _ _ _⟩
theorem atoi_none (s : ByteArray) (w : World) (hl : s.size ≤ 18) (h : Lib.atoi s.data.toList = none) (hh : Has w) :
    Calls Tryz.prog 79 #[.string s] w fun e w' => (∃ (T : TypeId) (a : Addr), e = .returned (.tuple #[.int .i64 0, .iface T (.pointer (some a))])) ∧ Below w.heap.size w w' := by
  obtain ⟨_, tp, p, h3⟩ := hh
  exact (Any.strconv_Atoi_err Tryz.lays172 s hl h (.iface tp p) w h3 (Or.inr ⟨tp, p, rfl⟩)).mono fun _ _ ⟨N, he, _, _, hb⟩ => ⟨⟨_, _, he⟩, hb⟩
theorem clone_any (s : ByteArray) (w : World) (hl : s.size ≤ 140737488351232) :
    Calls Tryz.prog 89 #[.string s] w fun e w' => e = .returned (.string s) ∧ Below w.heap.size w w' := by
  go_enter Tryz.func89, Tryz.ntmps89
  go_wp2_with (go_at_call 112; refine (Any.stringslite_Clone Tryz.lays316 s _ ?_).mono ?_; omega; rintro e w' ⟨rfl, hb⟩)
  go_ret
  exact ⟨rfl, hb⟩
end Go.Proofs.YtjkcplpmhjnahaaGreatDoor.Image
namespace Go.Proofs.YtjkcplpmhjnahaaGreatDoor.M
/-- An image as text. -/
def lineB (nm : ByteArray) (v : Int) (cd : ByteArray) : ByteArray := nm ++ spcB ++ { data := (Lib.itoa v).toArray } ++ spcB ++ cd
def lineV (nm : ByteArray) (v : Int) (cd : ByteArray) : ByteArray := if imgE nm v cd = 0 then lineB nm v cd else { data := #[] }
theorem lineV_ok {nm cd : ByteArray} {v : Int} (h : imgE nm v cd = 0) : lineV nm v cd = lineB nm v cd := by unfold lineV; rw [if_pos h]
theorem lineV_bad {nm cd : ByteArray} {v : Int} (h : ¬ imgE nm v cd = 0) : lineV nm v cd = { data := #[] } := by unfold lineV; rw [if_neg h]
/-- The measure of an image. -/
def meaV (nm : ByteArray) (v : Int) (cd : ByteArray) : Int := if imgE nm v cd = 0 then ofFrom 1 (lineB nm v cd).data.toList else 0
theorem meaV_ok {nm cd : ByteArray} {v : Int} (h : imgE nm v cd = 0) : meaV nm v cd = ofFrom 1 (lineB nm v cd).data.toList := by unfold meaV; rw [if_pos h]
theorem meaV_bad {nm cd : ByteArray} {v : Int} (h : ¬ imgE nm v cd = 0) : meaV nm v cd = 0 := by unfold meaV; rw [if_neg h]
/-- Which of two is newer: the fault, and the answer. -/
def newE (nm : ByteArray) (v : Int) (cd : ByteArray) (nm' : ByteArray) (v' : Int) (cd' : ByteArray) : Int :=
  if imgE nm v cd = 0 then (if imgE nm' v' cd' = 0 then (if nm = nm' then 0 else 3) else imgE nm' v' cd') else imgE nm v cd
def newV (nm : ByteArray) (v : Int) (cd : ByteArray) (nm' : ByteArray) (v' : Int) (cd' : ByteArray) : Bool := decide (newE nm v cd nm' v' cd' = 0) && decide (v' < v)
section
variable {nm cd nm' cd' : ByteArray} {v v' : Int}
theorem newE_ok (h : imgE nm v cd = 0) (h' : imgE nm' v' cd' = 0) (hq : nm = nm') : newE nm v cd nm' v' cd' = 0 := by unfold newE; rw [if_pos h, if_pos h', if_pos hq]
theorem newE_name (h : imgE nm v cd = 0) (h' : imgE nm' v' cd' = 0) (hq : ¬ nm = nm') : newE nm v cd nm' v' cd' = 3 := by unfold newE; rw [if_pos h, if_pos h', if_neg hq]
theorem newE_second (h : imgE nm v cd = 0) (h' : ¬ imgE nm' v' cd' = 0) : newE nm v cd nm' v' cd' = imgE nm' v' cd' := by unfold newE; rw [if_pos h, if_neg h']
theorem newE_first (h : ¬ imgE nm v cd = 0) : newE nm v cd nm' v' cd' = imgE nm v cd := by unfold newE; rw [if_neg h]
theorem newV_ok (h : newE nm v cd nm' v' cd' = 0) : newV nm v cd nm' v' cd' = decide (v' < v) := by unfold newV; rw [decide_eq_true h]; rfl
theorem newV_bad (h : ¬ newE nm v cd nm' v' cd' = 0) : newV nm v cd nm' v' cd' = false := by unfold newV; rw [decide_eq_false h]; rfl
end
theorem blk_two (w : World) (o o' : Obj) : ((w.alloc o).alloc o').heap[w.heap.size + 1]? = some o' := by
  have := blk_new (w.alloc o) o'
  simpa using this
theorem dec_len : ∀ (k n : Nat), n < 10 ^ (k + 1) → (Lib.decDigits n).length ≤ k + 1
  | k, n, h => by
    by_cases h10 : n < 10
    · rw [dec_small h10]; simp
    · cases k with
      | zero => omega
      | succ k =>
        rw [dec_big h10, List.length_append]
        have := dec_len k (n / 10) (by rw [Nat.pow_succ] at h; omega)
        simp only [List.length_cons, List.length_nil]
        omega
theorem itoa_four {v : Int} (h1 : 1 ≤ v) (h2 : v ≤ 1000) : ({ data := (Lib.itoa v).toArray } : ByteArray).size ≤ 4 := by
  obtain ⟨n, rfl⟩ : ∃ n : Nat, v = n := ⟨v.toNat, by omega⟩
  rw [itoa_nat]
  have := dec_len 3 n (by omega)
  show (Lib.decDigits n).toArray.size ≤ 4
  simpa using this
end Go.Proofs.YtjkcplpmhjnahaaGreatDoor.M
namespace Go.Proofs.YtjkcplpmhjnahaaGreatDoor.Image
open Go.ChangeShapes Go.WideShapes Go.ChangeAt Go.RowKit
open Go.Proofs.YtjkcplpmhjnahaaGreatDoor.M
set_option linter.unusedVariables false

theorem byte_ext {s t : ByteArray} (h : s.data.toList = t.data.toList) : s = t := by
  cases s; cases t
  congr 1
  exact Array.ext' h
theorem str_ne {s t : ByteArray} (h : ¬ s = t) : (s.toList == t.toList) = false := by
  rw [Lib.toList_data, Lib.toList_data]
  apply beq_eq_false_iff_ne.2
  exact fun e => h (byte_ext e)
theorem str_eq {s t : ByteArray} (h : s = t) : (s.toList == t.toList) = true := by
  subst h
  simp
theorem errV_ne {T : TypeId} {k : Int} (h : ¬ k = 0) : errV T k = .iface T (.int .i64 k) := by unfold errV; rw [if_neg h]

theorem line_size (nm cd : ByteArray) (v : Int) (h : imgE nm v cd = 0) : (lineB nm v cd).size ≤ 22 := by
  obtain ⟨z1, z2, z3, z4, z5, z6, z7⟩ := imgE_zero h
  have hD := itoa_four z6 z7
  unfold lineB
  generalize ({ data := (Lib.itoa v).toArray } : ByteArray) = D at hD ⊢
  have hs : spcB.size = 1 := rfl
  rw [ByteArray.size_append, ByteArray.size_append, ByteArray.size_append, ByteArray.size_append, hs]
  omega

end Go.Proofs.YtjkcplpmhjnahaaGreatDoor.Image
namespace Go.Proofs.YtjkcplpmhjnahaaGreatDoor.M
/-- A number of at most k digits, without a needless nought. -/
def numG (k : Nat) (l : List UInt8) : Option Nat := if l = [] ∨ k < l.length ∨ (l.head? = some 48 ∧ 1 < l.length) then none else Lib.decFrom 0 l
theorem numG_four (l : List UInt8) : numG 4 l = numO l := rfl
/-- A text as a number: the number (0 where it is none), and the fault. -/
def nuV (k : Nat) (s : ByteArray) : Int := (((numG k s.data.toList).getD 0 : Nat) : Int)
def nuE (k : Nat) (s : ByteArray) : Int := if (numG k s.data.toList).isSome then 0 else 2
/-- A text as a Version. -/
def numV (s : ByteArray) : Int := (((numO s.data.toList).getD 0 : Nat) : Int)
def numE (s : ByteArray) : Int := if (numO s.data.toList).isSome then 0 else 2
theorem num_some {s : ByteArray} {n : Nat} (h : numO s.data.toList = some n) : numV s = n ∧ numE s = 0 := by unfold numV numE; rw [h]; exact ⟨rfl, rfl⟩
theorem num_none {s : ByteArray} (h : numO s.data.toList = none) : numV s = 0 ∧ numE s = 2 := by unfold numV numE; rw [h]; exact ⟨rfl, rfl⟩
theorem numO_long {l : List UInt8} (h : 4 < l.length) : numO l = none := by unfold numO; rw [if_pos (Or.inr (Or.inl h))]
section
variable {k : Nat} {s : ByteArray} {l : List UInt8} {n : Nat}
theorem nu_some (h : numG k s.data.toList = some n) : nuV k s = n ∧ nuE k s = 0 := by unfold nuV nuE; rw [h]; exact ⟨rfl, rfl⟩
theorem nu_none (h : numG k s.data.toList = none) : nuV k s = 0 ∧ nuE k s = 2 := by unfold nuV nuE; rw [h]; exact ⟨rfl, rfl⟩
theorem numG_long (h : k < l.length) : numG k l = none := by unfold numG; rw [if_pos (Or.inr (Or.inl h))]
theorem numG_some (h : numG k l = some n) : l ≠ [] ∧ l.length ≤ k ∧ (l.head? = some 48 → l.length = 1) ∧ Lib.decFrom 0 l = some n := by
  unfold numG at h
  split at h
  · cases h
  · rename_i hc
    have hne : l ≠ [] := fun e => hc (Or.inl e)
    refine ⟨hne, by omega, fun h48 => ?_, h⟩
    have : ¬ 1 < l.length := fun h1 => hc (Or.inr (Or.inr ⟨h48, h1⟩))
    cases l with
    | nil => exact absurd rfl hne
    | cons a r => simp at this ⊢; exact this
theorem numG_itoa (h : numG k l = some n) : Lib.itoa n = l := by
  obtain ⟨h1, h2, h3, h4⟩ := numG_some h
  rw [itoa_nat]
  exact dec_of l.length l n (Nat.le_refl _) h1 h3 h4
theorem numG_atoi (h : numG k l = some n) : Lib.atoi l = some (n : Int) := by
  obtain ⟨h1, h2, h3, h4⟩ := numG_some h
  cases l with
  | nil => exact absurd rfl h1
  | cons b r =>
    have hb : ∃ d, Lib.digitVal b = some d := by
      simp only [Lib.decFrom] at h4
      cases hd : Lib.digitVal b with
      | none => rw [hd] at h4; cases h4
      | some d => exact ⟨d, rfl⟩
    obtain ⟨d, hd⟩ := hb
    obtain ⟨e1, e2, _⟩ := Lib.digitVal_eq hd
    have n45 : ¬ (b == 45) = true := by
      intro e
      have e := beq_iff_eq.1 e
      subst e
      revert e1
      decide
    have n43 : ¬ (b == 43) = true := by
      intro e
      have e := beq_iff_eq.1 e
      subst e
      revert e1
      decide
    show (if (b == 45) = true then _ else _) = _
    rw [if_neg n45, if_neg n43]
    unfold Lib.decNat
    rw [if_neg (by simp), h4]
    rfl
theorem numG_dec (h : (Lib.decDigits n).length ≤ k) : numG k (Lib.decDigits n) = some n := by
  unfold numG
  rw [if_neg, decFrom_dec n n (Nat.le_refl _)]
  intro hh
  rcases hh with hh | hh | ⟨h1, h2⟩
  · exact dec_ne n hh
  · omega
  · have := dec_head n n (Nat.le_refl _) h1
    subst this
    rw [dec_small (by omega)] at h2
    simp at h2
theorem numG_noatoi (h : Lib.atoi l = none) : numG k l = none := by
  cases e : numG k l with
  | none => rfl
  | some n => rw [numG_atoi e] at h; cases h
theorem numG_neg {n : Int} (h : Lib.atoi l = some n) (hn : n < 0) : numG k l = none := by
  cases e : numG k l with
  | none => rfl
  | some m =>
    rw [numG_atoi e] at h
    have := Option.some.inj h
    omega
theorem numG_other {n : Int} (h : Lib.atoi l = some n) (hn : Lib.itoa n ≠ l) : numG k l = none := by
  cases e : numG k l with
  | none => rfl
  | some m =>
    rw [numG_atoi e] at h
    have := Option.some.inj h
    subst this
    exact absurd (numG_itoa e) hn
theorem numG_same {n : Int} (hn : 0 ≤ n) (hl : l.length ≤ k) (h : Lib.itoa n = l) : numG k l = some n.toNat := by
  obtain ⟨m, rfl⟩ : ∃ m : Nat, n = m := ⟨n.toNat, by omega⟩
  rw [itoa_nat] at h
  subst h
  exact numG_dec hl
end
end Go.Proofs.YtjkcplpmhjnahaaGreatDoor.M
namespace Go.Proofs.YtjkcplpmhjnahaaGreatDoor.Image
open Go.ChangeShapes Go.WideShapes Go.ChangeAt Go.RowKit
open Go.Proofs.YtjkcplpmhjnahaaGreatDoor.M
set_option linter.unusedVariables false

set_option maxHeartbeats 4000000 in
theorem num_is (k : Nat) (kz : Int) (hkz : kz = k) (hk : k ≤ 18) (s : ByteArray) (w : World) (hs : s.size ≤ 140737488351232) (hh : Has w) :
    Calls Tryz.prog 56 #[.string s, .int .i64 kz] w fun e w' => e = .returned (.tuple #[.int .i64 (nuV k s), errV 98 (nuE k s)]) ∧ Below w.heap.size w w' := by
  have HH := hide hh
  clear hh
  by_cases h4 : k < s.size
  · obtain ⟨n1, n2⟩ := nu_none (numG_long (l := s.data.toList) (by rw [len_size]; exact h4))
    have N1 := hide n1
    have N2 := hide n2
    clear n1 n2
    have h4z : kz < (s.size : Int) := by omega
    clear h4 hkz
    go_enter Tryz.func56, Tryz.ntmps56
    go_wp2
    go_ret2
    exact ⟨by rw [N1.out, N2.out]; rfl, Below.refl _ _⟩
  · have h4z : ¬ kz < (s.size : Int) := by omega
    have HL := hide (show s.size ≤ 18 by omega)
    have HLK := hide (show s.data.toList.length ≤ k by rw [len_size]; omega)
    clear h4 hkz hk hs
    cases ha : Lib.atoi s.data.toList with
    | none =>
      obtain ⟨n1, n2⟩ := nu_none (numG_noatoi (k := k) ha)
      have N1 := hide n1
      have N2 := hide n2
      clear n1 n2
      go_enter Tryz.func56, Tryz.ntmps56
      go_wp2_with (fail)
      refine (atoi_none s _ HL.out ha HH.out).mono ?_
      rintro e w1 ⟨⟨T, a, rfl⟩, hb⟩
      go_wp2
      go_ret2
      exact ⟨by rw [N1.out, N2.out]; rfl, hb⟩
    | some n =>
      have HA := hide ha
      obtain ⟨b1, b2⟩ := Lib.atoi_bound ha (by rw [len_size]; have := HL.out; omega)
      have CA := hide (atoi_some s n w HL.out ha)
      clear ha
      by_cases hn : n < 0
      · obtain ⟨n1, n2⟩ := nu_none (numG_neg (k := k) HA.out hn)
        have N1 := hide n1
        have N2 := hide n2
        clear n1 n2
        go_enter Tryz.func56, Tryz.ntmps56
        go_wp2_with (fail)
        refine CA.out.mono ?_
        rintro e w1 ⟨rfl, hb⟩
        go_wp2
        go_ret2
        exact ⟨by rw [N1.out, N2.out]; rfl, hb⟩
      · go_enter Tryz.func56, Tryz.ntmps56
        go_wp2_with (fail)
        refine CA.out.mono ?_
        rintro e w1 ⟨rfl, hb⟩
        have HB1 := hide hb
        have HH1 := hide (HH.out.below hb)
        clear hb
        go_wp2_with (fail)
        refine (itoa_any n _ (by omega) (by omega) HH1.out).mono ?_
        rintro e w2 ⟨rfl, hb⟩
        have HB2 := hide (below_on HB1.out hb)
        clear hb
        by_cases hq : Lib.itoa n = s.data.toList
        · obtain ⟨n1, n2⟩ := nu_some (numG_same (by omega) HLK.out hq)
          have N1 := hide (show nuV k s = n by rw [n1]; omega)
          have N2 := hide n2
          clear n1 n2
          have hs2 : ({ data := (Lib.itoa n).toArray } : ByteArray) = s := byte_ext hq
          have hs3 : (Lib.itoa n == s.toList) = true := by rw [Lib.toList_data, hq]; simp
          have HS := hide hs2
          clear hs2 hq
          go_wp2
          all_goals first
            | (exfalso; omega)
            | (go_ret2; exact ⟨by rw [N1.out, N2.out]; rfl, HB2.out⟩)
        · obtain ⟨n1, n2⟩ := nu_none (numG_other (k := k) HA.out hq)
          have N1 := hide n1
          have N2 := hide n2
          clear n1 n2
          have hs3 : (Lib.itoa n == s.toList) = false := by rw [Lib.toList_data]; exact beq_eq_false_iff_ne.2 hq
          clear hq
          go_wp2
          all_goals first
            | (exfalso; omega)
            | (go_ret2; exact ⟨by rw [N1.out, N2.out]; rfl, HB2.out⟩)
theorem num_any (k : Nat) (hk : k ≤ 18) (s : ByteArray) (w : World) (hs : s.size ≤ 140737488351232) (hh : Has w) :
    Calls Tryz.prog 56 #[.string s, .int .i64 k] w fun e w' => e = .returned (.tuple #[.int .i64 (nuV k s), errV 98 (nuE k s)]) ∧ Below w.heap.size w w' := num_is k _ rfl hk s w hs hh
theorem number_any (s : ByteArray) (w : World) (hs : s.size ≤ 140737488351232) (hh : Has w) :
    Calls Tryz.prog 56 #[.string s, .int .i64 4] w fun e w' => e = .returned (.tuple #[.int .i64 (numV s), errV 98 (numE s)]) ∧ Below w.heap.size w w' := num_any 4 (by omega) s w hs hh
end Go.Proofs.YtjkcplpmhjnahaaGreatDoor.Image
namespace Go.Proofs.YtjkcplpmhjnahaaGreatDoor.Any
open Go.ChangeShapes Go.WideShapes Go.ChangeAt Go.RowKit
open Go.Proofs.YtjkcplpmhjnahaaGreatDoor.M
set_option linter.unusedVariables false

/-- What is asked of a function value: at each number of the list, in whatever world that holds what w holds, it tells p, and leaves such a world. -/
def Tells (g : Nat) (lb : Array Value) (p : Int → Bool) (xs : List Int) (w : World) : Prop :=
  ∀ (W : World) (x : Int), x ∈ xs → Below w.heap.size w W → Calls Tryz.prog g (#[.int .i64 x] ++ lb) W fun e w' => e = .returned (.bool (p x)) ∧ Below w.heap.size w w'

set_option maxHeartbeats 2000000 in
theorem index_any (a : Option Addr) (xs : List Int) (n cap : Nat) (g : Nat) (lb : Array Value) (p : Int → Bool) (w : World) (hn : n = xs.length) (hl : n ≤ 1000000) (hr : Row w a xs)
    (eg : ∀ args w, (callFunc g args).run Tryz.prog w = .ok (.enter g args) w) (hp : Tells g lb p xs w) :
    Calls Tryz.prog 121 #[.slice a n cap, .func (.func g) #[] lb] w fun e w' => (∃ r : Int, e = .returned (.int .i64 r) ∧ decide (0 ≤ r) = xs.any p) ∧ Below w.heap.size w w' := by
  have HL : Hid (∀ k, k < n → ∃ x, xs[k]? = some x) := fun k hk => ⟨xs[k]'(by omega), List.getElem?_eq_getElem (by omega)⟩
  have HN := hide hn
  have HR := hide hr
  have HP := hide hp
  clear hn hr hp
  go_enter Tryz.func121, Tryz.ntmps121
  go_wp2
  go_loopw [5, 8] (fun _ i wr => ∃ k : Nat, k ≤ n ∧ i = .int .i64 k ∧ Hid (Below w.heap.size w wr) ∧ Hid (∀ (j : Nat) (x : Int), j < k → xs[j]? = some x → p x = false)) (fun _ i _ => n - (intOf i).toNat)
  case atStart => exact ⟨0, by omega, rfl, Below.refl _ _, fun j x h => by omega⟩
  case round =>
    obtain ⟨k, hk, rfl, HB, HA⟩ := hrel
    by_cases hlt : k < n
    · obtain ⟨x, hx⟩ := HL.out k hlt
      have HX := hide hx
      clear hx
      have hrow : ∃ b off, a = some ⟨b, off, none⟩ ∧ wr.cell? ⟨b, off + k, none⟩ = some (.int .i64 x) := by
        rcases HR.out.below HB.out with h | ⟨b, off, h1, h2⟩
        · have := HX.out; rw [h] at this; simp at this
        · exact ⟨b, off, h1, h2 k x HX.out⟩
      obtain ⟨b, off, rfl, hc⟩ := hrow
      have hcall := HP.out wr x (List.mem_of_getElem? HX.out) HB.out
      cases hq : p x with
      | true =>
        rw [hq] at hcall
        go_wp2_with (go_at_fn g; refine hcall.mono ?_; rintro e w' ⟨rfl, hb'⟩)
        go_ret
        refine ⟨⟨k, rfl, ?_⟩, hb'⟩
        rw [List.any_eq_true.2 ⟨x, List.mem_of_getElem? HX.out, hq⟩]
        simp
      | false =>
        rw [hq] at hcall
        go_wp2_with (go_at_fn g; refine hcall.mono ?_; rintro e w' ⟨rfl, hb'⟩)
        go_roundw
        case rel => exact ⟨k + 1, by omega, by go_num, hb', fun j y hj hy => by
          by_cases e : j = k
          · subst e; rw [HX.out] at hy; cases hy; exact hq
          · exact HA.out j y (by omega) hy⟩
        case measure => simp [intOf]; omega
    · go_wp2
      go_ret
      refine ⟨⟨-1, rfl, ?_⟩, HB.out⟩
      have h0 : xs.any p = false := by
        rw [List.any_eq_false]
        intro x hx
        obtain ⟨j, hj, e⟩ := List.mem_iff_getElem.1 hx
        rw [HA.out j x (by have := HN.out; omega) (by rw [List.getElem?_eq_getElem hj, e])]
        simp
      rw [h0]
      rfl

theorem contains_any (a : Option Addr) (xs : List Int) (n cap : Nat) (g : Nat) (lb : Array Value) (p : Int → Bool) (w : World) (hn : n = xs.length) (hl : n ≤ 1000000) (hr : Row w a xs)
    (eg : ∀ args w, (callFunc g args).run Tryz.prog w = .ok (.enter g args) w) (hp : Tells g lb p xs w) :
    Calls Tryz.prog 108 #[.slice a n cap, .func (.func g) #[] lb] w fun e w' => e = .returned (.bool (xs.any p)) ∧ Below w.heap.size w w' := by
  have C := hide (index_any a xs n cap g lb p w hn hl hr eg hp)
  clear hn hr hp
  go_enter Tryz.func108, Tryz.ntmps108
  go_wp2_with (fail)
  refine C.out.mono ?_
  rintro e w' ⟨⟨r, rfl, hr⟩, hb⟩
  have HR := hide hr
  clear hr
  go_wp2
  go_ret
  exact ⟨by rw [← HR.out]; rfl, hb⟩
end Go.Proofs.YtjkcplpmhjnahaaGreatDoor.Any
namespace Go.Proofs.YtjkcplpmhjnahaaGreatDoor.Open
open Go.ChangeShapes Go.WideShapes Go.ChangeAt Go.RowKit
open Go.Proofs.YtjkcplpmhjnahaaGreatDoor.M

theorem ints {H : Type} {enc : TypeId × Value → H} {P : Program} {W : World} {b0 : Nat} {hd : Bool} {t e : TypeId} {a : Option Addr} {len cap : Nat} {d : DataW H} {ps : List MemPlace}
    (hu : P.underlying t = some (.slice e)) (he : P.underlying e = some (.int .i64)) (hce : P.cellsOf e = 1) (h : DataW.Trod enc P W b0 (fun _ => true) hd t (.slice a len cap) d ps) :
    ∃ xs : List Int, len = xs.length ∧ len ≤ maxLen ∧ (a = none → cap = 0) ∧ Row W a xs := by
  obtain ⟨fuel, hf⟩ := h
  rcases open_ints hu he hce hf with ⟨hcs, _⟩ | ⟨x, l, c, zs, hcs, _, hl, hm, hz, _, hcell, _⟩
  · simp [Value.cells] at hcs
    obtain ⟨rfl, rfl, rfl⟩ := hcs
    exact ⟨[], rfl, by unfold maxLen; omega, fun _ => rfl, Or.inl rfl⟩
  · simp [Value.cells] at hcs
    obtain ⟨rfl, rfl, rfl⟩ := hcs
    have hz' : zs.length = cap := by simpa using hz
    refine ⟨zs.take len, by simp; omega, by omega, fun hno => (by cases hno), ?_⟩
    obtain ⟨b, off, spot⟩ := x
    by_cases h0 : len = 0
    · left; simp [h0]
    · have hc := hcell 0 (by omega)
      have hspot : spot = none := by simpa [Addr.add] using World.cell?_spot hc
      subst hspot
      refine Or.inr ⟨b, off, rfl, fun k x hx => ?_⟩
      rw [List.getElem?_take] at hx
      split at hx
      · have hk := (List.getElem?_eq_some_iff.1 hx).1
        have hc := hcell k hk
        rw [add_none] at hc
        rw [hc, List.getD_eq_getElem?_getD, hx]
        rfl
      · cases hx

theorem array {H : Type} {enc : TypeId × Value → H} {P : Program} {W : World} {b0 base : Nat} {sp : Nat → Bool} {hd : Bool} {t e : TypeId} {n : Nat} {v : Value} {d : DataW H} {ps : List MemPlace}
    (hu : P.underlying t = some (.array n e)) (he : P.underlying e = some (.int .i64)) (hce : P.cellsOf e = 1) (hct : P.cellsOf t = n) (hv : Value.okWide P W .any base t v) (h : DataW.Trod enc P W b0 sp hd t v d ps) :
    ∃ xs : List Int, v = .agg (bankC xs) ∧ xs.length = n := by
  obtain ⟨cs, rfl, hsz, _⟩ : ∃ cs, v = .agg cs ∧ cs.size = P.cellsOf t ∧ Row.okWide P W .any base t cs := by
    simpa [Value.okWide, hu] using hv
  rw [hct] at hsz
  obtain ⟨fuel, hf⟩ := h
  obtain ⟨ys, m, _, _, _, hl, hy⟩ := DataW.trod_array hu hf
  have hat : ∀ i, i < n → ∃ z : Int, cs[i]? = some (.int .i64 z) := by
    intro i hi
    have h1 := hy i hi
    rw [hce, Nat.mul_one, List.getElem?_eq_getElem (by omega)] at h1
    obtain ⟨z, e1, _, _⟩ := DataW.trod_int he h1
    refine ⟨z, ?_⟩
    have e2 : (Value.agg cs).cells.toList[i]? = some (.int .i64 z) := by
      have := congrArg (fun l => l[0]?) e1
      simpa using this
    simpa [Value.cells] using e2
  refine ⟨cs.toList.map fun v => match v with | .int _ z => z | _ => 0, ?_, by simp [hsz]⟩
  congr 1
  unfold bankC
  apply Array.ext'
  apply List.ext_getElem?
  intro i
  by_cases hi : i < n
  · obtain ⟨z, hz⟩ := hat i hi
    simp [hz]
  · rw [List.getElem?_eq_none (by simp; omega), List.getElem?_eq_none (by simp; omega)]
end Go.Proofs.YtjkcplpmhjnahaaGreatDoor.Open
namespace Go.Proofs.YtjkcplpmhjnahaaGreatDoor.Bank
open Go.ChangeShapes Go.WideShapes Go.ChangeAt Go.RowKit
open Go.Proofs.YtjkcplpmhjnahaaGreatDoor.M Go.Proofs.YtjkcplpmhjnahaaGreatDoor.Measure
set_option linter.unusedVariables false

theorem bad_any (xs : List Int) (w : World) : Any.Tells 109 #[] (fun x => !isM x) xs w := by
  intro W x _ hb
  show Calls Tryz.prog 109 #[.int .i64 x] W _
  go_enter Tryz.func109, Tryz.ntmps109
  go_wp2_with (go_at_call 110; refine (is_any _ _).mono ?_; rintro e w' ⟨rfl, rfl⟩)
  go_ret
  exact ⟨by cases isM x <;> rfl, hb⟩

set_option maxHeartbeats 1000000 in
theorem check_any (xs : List Int) (c : Array Value) (w : World) (hc : c = bankC xs) (hl : xs.length = 8) :
    Calls Tryz.prog 83 #[.agg c] w fun e w' => e = .returned (errV 98 (bankE xs)) ∧ Below w.heap.size w w' := by
  have HC := hide hc
  have HL := hide hl
  have e11 : ∀ args w, (callFunc 109 args).run Tryz.prog w = .ok (.enter 109 args) w := enters_of Tryz.func109 (by kernel_rfl) rfl
  clear hc hl
  go_enter Tryz.func83, Tryz.ntmps83
  go_wp2_with (fail)
  refine (Any.contains_any _ xs 8 8 _ #[] _ _ (HL.out).symm (by omega) (bank_row (t := 30) (fr := (0, 0)) (by rw [← HC.out]; exact heap_alloc_new w _)) e11 (bad_any xs _)).mono ?_
  rintro e w1 ⟨rfl, hb⟩
  have HB := hide (((Below.refl _ w).alloc (Nat.le_refl _) (.cells c 30)).trans (hb.mono (by simp)))
  clear hb
  rw [any_bad]
  cases ho : okAll xs with
  | true =>
    have E := hide (bankE_ok ho)
    go_wp2
    go_ret
    exact ⟨by rw [E.out]; rfl, HB.out⟩
  | false =>
    have E := hide (bankE_bad ho)
    go_wp2
    go_ret
    exact ⟨by rw [E.out]; rfl, HB.out⟩

theorem isMask_any (n : Int) (w : World) :
    Calls Tryz.prog 84 #[.int .i64 n] w fun e w' => e = .returned (.bool (isMask n)) ∧ w' = w := by
  by_cases h0 : 0 ≤ n
  · by_cases h1 : n ≤ 255
    · rw [isMask_iff.2 ⟨h0, h1⟩]
      go_enter Tryz.func84, Tryz.ntmps84
      go_wp2
      go_ret
      exact ⟨rfl, rfl⟩
    · rw [isMask_false.2 (by omega)]
      go_enter Tryz.func84, Tryz.ntmps84
      go_wp2
      go_ret
      exact ⟨rfl, rfl⟩
  · rw [isMask_false.2 (by omega)]
    go_enter Tryz.func84, Tryz.ntmps84
    go_wp2
    go_ret
    exact ⟨rfl, rfl⟩

theorem isRegister_any (n : Int) (w : World) :
    Calls Tryz.prog 105 #[.int .i64 n] w fun e w' => e = .returned (.bool (isReg n)) ∧ w' = w := by
  by_cases h0 : 0 ≤ n
  · by_cases h1 : n < 8
    · rw [isReg_iff.2 ⟨h0, h1⟩]
      go_enter Tryz.func105, Tryz.ntmps105
      go_wp2
      go_ret
      exact ⟨rfl, rfl⟩
    · rw [isReg_false.2 (by omega)]
      go_enter Tryz.func105, Tryz.ntmps105
      go_wp2
      go_ret
      exact ⟨rfl, rfl⟩
  · rw [isReg_false.2 (by omega)]
    go_enter Tryz.func105, Tryz.ntmps105
    go_wp2
    go_ret
    exact ⟨rfl, rfl⟩

theorem info_int : (Tryz.prog.info? 3).map (fun i => (i.zero, i.size, i.bytes)) = some (some (.int .i64 0), 1, 8) := by kernel_rfl

set_option maxHeartbeats 2000000 in
theorem asked_any (m : Int) (w : World) (hm0 : 0 ≤ m) (hm1 : m ≤ 255) :
    Calls Tryz.prog 85 #[.int .i64 m] w fun e w' => ∃ v, e = .returned v ∧ Own w' w.heap.size 3 v (askedL m 8) ∧ Below w.heap.size w w' := by
  go_enter Tryz.func85, Tryz.ntmps85
  go_wp2
  go_loopw [2, 3, 4] (fun v _ i wr => ∃ k : Nat, k ≤ 8 ∧ i = .int .i64 k ∧ Hid (Own wr w.heap.size 3 v (askedL m k)) ∧ Hid (Below w.heap.size w wr)) (fun _ _ i _ => 8 - (intOf i).toNat)
  case atStart => exact ⟨0, by omega, rfl, Own.nil _ _ _, Below.refl _ _⟩
  case round =>
    obtain ⟨k, hk, rfl, HO, HB⟩ := hrel
    by_cases hlt : k < 8
    · have hsz := HB.out.size
      cases hbit : bit m k with
      | true =>
        have hand := bit_yes hbit
        go_wp2_with (at_builtin; refine wpList_app rfl _ _ 51 rfl w.heap.size 3 info_int Tryz.underlying51 _ (askedL m k) rfl (HO.out.alloc _) (some ⟨wr.heap.size, 0, none⟩) 1 1 [(k : Int)] rfl rfl (fun h => by cases h) (Row.one _ _ _ (by simp)) (by have := askedL_len m k; simp; omega) (by simp; omega) ?_; intro v' w1 ho hgr)
        go_roundw
        case rel => exact ⟨k + 1, by omega, by go_num, by rw [askedL_hit hbit]; exact ho, (HB.out.alloc hsz _).grown hgr (by simp; omega) (fun k hk => HO.out.block k hk)⟩
        case measure => simp [intOf]; omega
      | false =>
        have hand := bit_no hbit
        go_wp2
        go_roundw
        case rel => exact ⟨k + 1, by omega, by go_num, by rw [askedL_miss hbit]; exact HO, HB⟩
        case measure => simp [intOf]; omega
    · go_wp2
      go_ret
      have : k = 8 := by omega
      subst this
      exact ⟨_, rfl, HO.out, HB.out⟩
end Go.Proofs.YtjkcplpmhjnahaaGreatDoor.Bank
namespace Go.Proofs.YtjkcplpmhjnahaaGreatDoor.Bank
open Go.ChangeShapes Go.WideShapes Go.ChangeAt Go.RowKit
open Go.Proofs.YtjkcplpmhjnahaaGreatDoor.M Go.Proofs.YtjkcplpmhjnahaaGreatDoor.Measure
set_option linter.unusedVariables false

theorem info_bank : (Tryz.prog.info? 30).map (·.size) = some 8 := by kernel_rfl
/-- A bank out of its block. -/
theorem load_bank {w : World} {b : Nat} {c : Array Value} {fr : Nat × Nat} (h : w.heap[b]? = some (.cells c 30 fr)) (hs : c.size = 8) : (loadVar 30 ⟨b, 0, none⟩).run Tryz.prog w = .ok (.agg c) w :=
  run_loadVar_row w b _ _ c fr _ h Tryz.underlying30 rfl (by rw [info_bank, hs])

/-- The walk's step there: the whole bank out of the block that a slot points to. -/
theorem wpl_load {w : World} {ops : Array Oper} {rest : List Oper} {o : Oper} {a : Act} {Q : Exit → Act → World → Prop} (p : Nat) (hw : Region.wanted o (yielded ops a.tmps) = true) (ho : o.op = .load 30 (.tmp p)) (b : Nat)
    (hx : a.eval (.tmp p) = .pointer (some ⟨b, 0, none⟩)) (c : Array Value) (fr : Nat × Nat) (hg : w.heap[b]? = some (.cells c 30 fr)) (hs : c.size = 8) (h : wpList Tryz.prog ops Q rest (a.put o.dst (.agg c)) w) : wpList Tryz.prog ops Q (o :: rest) a w :=
  wpList_step fun K hK => by
    simp only [hw, if_true]
    exact wp_load_row _ (.tmp p) ho b hx _ c fr _ hg Tryz.underlying30 rfl (by rw [info_bank, hs]) (hK _ _ h)
theorem heap_below {w w' : World} {B b : Nat} {o : Obj} (h : w.heap[b]? = some o) (hb : Below B w w') (hlt : b < B) : w'.heap[b]? = some o := (hb.block b hlt).trans h

set_option maxHeartbeats 2000000 in
theorem digest_any (xs : List Int) (c : Array Value) (m : Int) (w : World) (hc : c = bankC xs) (hl : xs.length = 8) :
    Calls Tryz.prog 59 #[.agg c, .int .i64 m] w fun e w' => e = .returned (.tuple #[.int .i64 (digV xs m), errV 98 (digE xs m)]) ∧ Below w.heap.size w w' := by
  have HC := hide hc
  have HL := hide hl
  have HS := hide (show c.size = 8 by rw [hc, bankC_size, hl])
  have HG := hide (heap_alloc_new w (.cells c 30))
  clear hc hl
  go_enter Tryz.func59, Tryz.ntmps59
  go_wp2_with ((with_reducible refine wpl_load 2 ?_ ?_ _ ?_ _ _ HG.out HS.out ?_); rfl; rfl; rfl)
  refine (check_any xs c _ HC.out HL.out).mono ?_
  rintro e w1 ⟨rfl, hb1⟩
  have HB1 := hide (((Below.refl _ w).alloc (Nat.le_refl _) (.cells c 30)).trans (hb1.mono (by simp)))
  have HG1 := hide (heap_below HG.out hb1 (by simp))
  clear hb1 HG
  cases ho : okAll xs with
  | false =>
    have E := hide (digE_bad (xs := xs) (m := m) (fun h => by rw [ho] at h; exact Bool.false_ne_true h.1))
    have E' := hide (digV_bad (xs := xs) (m := m) (fun h => by rw [ho] at h; exact Bool.false_ne_true h.1))
    rw [bankE_bad ho, errV_one]
    go_wp2
    go_ret2
    exact ⟨by rw [E.out, E'.out]; rfl, HB1.out⟩
  | true =>
    have HO := hide ho
    rw [bankE_ok ho, errV_zero]
    clear ho
    go_wp2_with (fail)
    refine (isMask_any m _).mono ?_
    rintro e w2 ⟨rfl, rfl⟩
    cases hm : isMask m with
    | false =>
      have E := hide (digE_bad (xs := xs) (m := m) (fun h => by rw [hm] at h; exact Bool.false_ne_true h.2))
      have E' := hide (digV_bad (xs := xs) (m := m) (fun h => by rw [hm] at h; exact Bool.false_ne_true h.2))
      go_wp2
      go_ret2
      exact ⟨by rw [E.out, E'.out]; rfl, HB1.out⟩
    | true =>
      have E := hide (digE_ok HO.out hm)
      have E' := hide (digV_ok HO.out hm)
      have hm01 := isMask_iff.1 hm
      obtain ⟨hm0, hm1⟩ := hm01
      go_wp2_with (fail)
      refine (asked_any m _ hm0 hm1).mono ?_
      rintro e w3 ⟨v, rfl, hown, hb3⟩
      obtain ⟨a, cap, rfl, _, hrow⟩ := hown.row
      have HROW := hide hrow
      have HB3 := hide (HB1.out.trans (hb3.mono HB1.out.size))
      have HG3 := hide (heap_below HG1.out hb3 (heap_lt HG1.out))
      have HLEN := hide (askedL_len m 8)
      clear hrow hown hb3
      go_wp2
      go_loopw [7, 9, 22] (fun v _ i wr => ∃ k : Nat, k ≤ (askedL m 8).length ∧ i = .int .i64 k ∧ Hid (Own wr w3.heap.size 3 v (pick xs ((askedL m 8).take k))) ∧ Hid (Below w3.heap.size w3 wr)) (fun _ _ i _ => (askedL m 8).length - (intOf i).toNat)
      case atStart => exact ⟨0, by omega, rfl, Own.nil _ _ _, Below.refl _ _⟩
      case round =>
        obtain ⟨k, hk, rfl, HOW, HBR⟩ := hrel
        have hsz := HBR.out.size
        by_cases hlt : k < (askedL m 8).length
        · obtain ⟨i, hi⟩ : ∃ i, (askedL m 8)[k]? = some i := ⟨_, List.getElem?_eq_getElem hlt⟩
          obtain ⟨j, hj, rfl, _⟩ := askedL_mem (List.mem_of_getElem? hi)
          obtain ⟨y, hy⟩ : ∃ y, xs[j]? = some y := ⟨_, List.getElem?_eq_getElem (by have := HL.out; omega)⟩
          have HX := hide hi
          have HY := hide hy
          have HGR := hide (heap_below HG3.out HBR.out (heap_lt HG3.out))
          have hcb : wr.cell? ⟨w.heap.size, j, none⟩ = some (.int .i64 y) := bank_cell (xs := xs) (t := 30) (fr := (0, 0)) (by rw [← HC.out]; exact HGR.out) HY.out
          have hrow : ∃ b off, a = some ⟨b, off, none⟩ ∧ wr.cell? ⟨b, off + k, none⟩ = some (.int .i64 j) := by
            rcases HROW.out.below HBR.out with h | ⟨b, off, h1, h2⟩
            · have := HX.out; rw [h] at this; simp at this
            · exact ⟨b, off, h1, h2 k j HX.out⟩
          obtain ⟨b, off, rfl, hc⟩ := hrow
          clear hi hy
          have hlen : (askedL m 8).length ≤ 8 := HLEN.out
          go_wp2_with (at_builtin; refine wpList_app rfl _ _ 51 rfl w3.heap.size 3 info_int Tryz.underlying51 _ (pick xs ((askedL m 8).take k)) rfl (HOW.out.alloc _) (some ⟨wr.heap.size, 0, none⟩) 1 1 [y] rfl rfl (fun h => by cases h) (Row.one _ _ _ (by simp)) (by rw [pick_len]; simp; omega) (by simp; omega) ?_; intro v' w5 ho hgr)
          go_roundw
          case rel => exact ⟨k + 1, by omega, by go_num, by rw [pick_take HX.out (by simpa using HY.out)]; exact ho, (HBR.out.alloc hsz _).grown hgr (by simp; omega) (fun k hk => HOW.out.block k hk)⟩
          case measure => simp [intOf]; omega
        · have htk : (askedL m 8).take k = askedL m 8 := List.take_of_length_le (by omega)
          obtain ⟨a7, cap7, rfl, _, hrow7⟩ := HOW.out.row
          rw [htk] at hrow7 ⊢
          have HR7 := hide hrow7
          have HB7 := hide (HB3.out.trans (HBR.out.mono HB3.out.size))
          clear hrow7 htk
          go_wp2_with (fail)
          refine (all_ok _ (pick xs (askedL m 8)) _ _ _ rfl (by rw [pick_len]; have := HLEN.out; omega) HR7.out (pick_ok HO.out HL.out m)).mono ?_
          rintro e w8 ⟨rfl, rfl⟩
          go_wp2
          go_ret2
          exact ⟨by rw [E.out, E'.out]; rfl, HB7.out⟩

end Go.Proofs.YtjkcplpmhjnahaaGreatDoor.Bank
namespace Go.Proofs.YtjkcplpmhjnahaaGreatDoor.Bank
open Go.ChangeShapes Go.WideShapes Go.ChangeAt Go.RowKit
open Go.Proofs.YtjkcplpmhjnahaaGreatDoor.M Go.Proofs.YtjkcplpmhjnahaaGreatDoor.Measure
set_option linter.unusedVariables false

theorem bankC_one (xs : List Int) : (bankC xs).all (·.oneCell') = true := by
  rw [Array.all_eq_true_iff_forall_mem]
  intro v hv
  simp only [bankC, List.mem_toArray, List.mem_map] at hv
  obtain ⟨_, _, rfl⟩ := hv
  rfl
/-- The walk's step where a whole bank is stored into the block that a slot points to. -/
theorem wpl_store {w : World} {ops : Array Oper} {rest : List Oper} {o : Oper} {a : Act} {Q : Exit → Act → World → Prop} (p q : Nat) (hw : Region.wanted o (yielded ops a.tmps) = true) (ho : o.op = .store 30 (.tmp p) (.tmp q)) (b : Nat)
    (hx : a.eval (.tmp p) = .pointer (some ⟨b, 0, none⟩)) (c d : Array Value) (hv : a.eval (.tmp q) = .agg d) (hg : w.heap[b]? = some (.cells c 30)) (hs : c.size = 8) (hs' : d.size = 8) (h1 : d.all (·.oneCell') = true)
    (h : wpList Tryz.prog ops Q rest (a.put o.dst undef) (w.setRow b d)) : wpList Tryz.prog ops Q (o :: rest) a w :=
  wpList_step fun K hK => by
    simp only [hw, if_true]
    unfold Oper.wp execOp
    simp only [ho, hx, hv, Instr.storeAt, Instr.sureAddr, Sem.run_bind, Sem.run_pure, Result.andThen_ok, run_storeVar_row w b _ _ c d hg (by rw [info_bank, hs']) (by rw [hs, hs']) h1]
    exact hK _ _ h
theorem results_bank {fn : Func} {p u : Tmp} (h : fn.results = #[.cell p 30, .tmp u]) (tmps : Array Value) (w : World) (b : Nat) (c : Array Value) (v : Value) (hp : tmps.getD p undef = .pointer (some ⟨b, 0, none⟩)) (hu : tmps.getD u undef = v)
    (hg : w.heap[b]? = some (.cells c 30)) (hs : c.size = 8) : (results fn tmps).run Tryz.prog w = .ok (.tuple #[.agg c, v]) w := by
  rw [results_cell_tmp h, hp, hu]
  simp [asAddr, load_bank hg hs, Result.andThen]
theorem noBank_cells : bankC noBank = #[.int .i64 0, .int .i64 0, .int .i64 0, .int .i64 0, .int .i64 0, .int .i64 0, .int .i64 0, .int .i64 0] := rfl
theorem noBank_size : (#[.int .i64 0, .int .i64 0, .int .i64 0, .int .i64 0, .int .i64 0, .int .i64 0, .int .i64 0, .int .i64 0] : Array Value).size = 8 := rfl
theorem noBank_one : (#[.int .i64 0, .int .i64 0, .int .i64 0, .int .i64 0, .int .i64 0, .int .i64 0, .int .i64 0, .int .i64 0] : Array Value).all (·.oneCell') = true := bankC_one noBank

set_option maxHeartbeats 4000000 in
theorem extend_any (xs : List Int) (c : Array Value) (i m : Int) (w : World) (hc : c = bankC xs) (hl : xs.length = 8) :
    Calls Tryz.prog 81 #[.agg c, .int .i64 i, .int .i64 m] w fun e w' => e = .returned (.tuple #[.agg (bankC (extV xs i m)), errV 98 (extE xs i m)]) ∧ Below w.heap.size w w' := by
  have HC := hide hc
  have HL := hide hl
  have HS := hide (show c.size = 8 by rw [hc, bankC_size, hl])
  have HG := hide (heap_alloc2_old w (.cells c 30) (.cells #[.int .i64 0, .int .i64 0, .int .i64 0, .int .i64 0, .int .i64 0, .int .i64 0, .int .i64 0, .int .i64 0] 30))
  have HK := hide (heap_alloc2_new w (.cells c 30) (.cells #[.int .i64 0, .int .i64 0, .int .i64 0, .int .i64 0, .int .i64 0, .int .i64 0, .int .i64 0, .int .i64 0] 30))
  have HB0 := hide (((Below.refl _ w).alloc (Nat.le_refl _) (.cells c 30)).alloc (by simp) (.cells #[.int .i64 0, .int .i64 0, .int .i64 0, .int .i64 0, .int .i64 0, .int .i64 0, .int .i64 0, .int .i64 0] 30))
  clear hc hl
  go_enter Tryz.func81, Tryz.ntmps81
  go_wp2_with ((with_reducible refine wpl_load 3 ?_ ?_ _ ?_ _ _ HG.out HS.out ?_); rfl; rfl; rfl)
  refine (check_any xs c _ HC.out HL.out).mono ?_
  rintro e w1 ⟨rfl, hb1⟩
  have HB1 := hide (HB0.out.trans (hb1.mono (by simp; omega)))
  have HG1 := hide (heap_below HG.out hb1 (heap_lt HG.out))
  have HK1 := hide (heap_below HK.out hb1 (heap_lt HK.out))
  clear hb1 HG HK HB0
  cases ho : okAll xs with
  | false =>
    have hx : extOk xs i m = false := by unfold extOk; rw [ho]; rfl
    have E := hide (extE_bad hx)
    have E' := hide (extV_bad hx)
    rw [bankE_bad ho, errV_one]
    clear ho hx
    go_wp2_with ((with_reducible refine wpl_store 6 15 ?_ ?_ _ ?_ _ _ ?_ HK1.out noBank_size noBank_size noBank_one ?_); rfl; rfl; rfl; rfl)
    refine bodyPost_ret (v := .tuple #[.agg #[.int .i64 0, .int .i64 0, .int .i64 0, .int .i64 0, .int .i64 0, .int .i64 0, .int .i64 0, .int .i64 0], .iface 98 (.int .i64 1)]) ?_ rfl ⟨?_, ?_⟩
    · exact results_bank (p := 6) (u := 7) rfl _ _ (w.heap.size + 1) _ _ rfl rfl (setRow_heap _ _ _ _ _ _ HK1.out) noBank_size
    · rw [E.out, E'.out]; rfl
    · exact below_setRow HB1.out (by omega) _
  | true =>
    rw [bankE_ok ho, errV_zero]
    go_wp2_with (fail)
    refine (isRegister_any i _).mono ?_
    rintro e w1 ⟨rfl, rfl⟩
    cases hr : isReg i with
    | false =>
      have hx : extOk xs i m = false := by unfold extOk; rw [hr, ho]; rfl
      have E := hide (extE_bad hx)
      have E' := hide (extV_bad hx)
      clear ho hx hr
      go_wp2_with ((with_reducible refine wpl_store 6 20 ?_ ?_ _ ?_ _ _ ?_ HK1.out noBank_size noBank_size noBank_one ?_); rfl; rfl; rfl; rfl)
      refine bodyPost_ret (v := .tuple #[.agg #[.int .i64 0, .int .i64 0, .int .i64 0, .int .i64 0, .int .i64 0, .int .i64 0, .int .i64 0, .int .i64 0], .iface 98 (.int .i64 1)]) ?_ rfl ⟨?_, ?_⟩
      · exact results_bank (p := 6) (u := 7) rfl _ _ (w.heap.size + 1) _ _ rfl rfl (setRow_heap _ _ _ _ _ _ HK1.out) noBank_size
      · rw [E.out, E'.out]; rfl
      · exact below_setRow HB1.out (by omega) _
    | true =>
      have hir := isReg_iff.1 hr
      obtain ⟨hi0, hi8⟩ := hir
      obtain ⟨k, rfl⟩ : ∃ k : Nat, i = k := ⟨i.toNat, by omega⟩
      have hk8 : k < 8 := by omega
      obtain ⟨x, hx⟩ : ∃ x, xs[k]? = some x := ⟨_, List.getElem?_eq_getElem (by have := HL.out; omega)⟩
      have hmx : isM x = true := okAll_at ho hx
      have hcell : w1.cell? ⟨w.heap.size, k, none⟩ = some (.int .i64 x) := bank_cell (xs := xs) (t := 30) (fr := (0, 0)) (by rw [← HC.out]; exact HG1.out) hx
      have hfr : w1.frozen? ⟨w.heap.size, k, none⟩ = false := by simp [World.frozen?, HG1.out]
      have HX := hide hx
      cases hm : isM m with
      | false =>
        have hxx : extOk xs k m = false := by unfold extOk; rw [hr, ho, hm]; rfl
        have E := hide (extE_bad hxx)
        have E' := hide (extV_bad hxx)
        have HM := hide hm
        clear ho hxx hr hm hx hmx
        go_wp2_with (fail)
        refine (two_bad x m _ (Or.inr HM.out)).mono ?_
        rintro e w2 ⟨rfl, rfl⟩
        go_wp2_with ((with_reducible refine wpl_store 6 32 ?_ ?_ _ ?_ _ _ ?_ HK1.out noBank_size noBank_size noBank_one ?_); rfl; rfl; rfl; rfl)
        refine bodyPost_ret (v := .tuple #[.agg #[.int .i64 0, .int .i64 0, .int .i64 0, .int .i64 0, .int .i64 0, .int .i64 0, .int .i64 0, .int .i64 0], .iface 98 (.int .i64 1)]) ?_ rfl ⟨?_, ?_⟩
        · exact results_bank (p := 6) (u := 7) rfl _ _ (w.heap.size + 1) _ _ rfl rfl (setRow_heap _ _ _ _ _ _ HK1.out) noBank_size
        · rw [E.out, E'.out]; rfl
        · exact below_setRow HB1.out (by omega) _
      | true =>
        have hxx : extOk xs k m = true := extOk_iff.2 ⟨ho, hr, hm⟩
        have E := hide (extE_ok hxx)
        have E' := hide (extV_ok hxx)
        have HM := hide hm
        have HMX := hide hmx
        clear ho hxx hr hm hx hmx
        have HV := hide (show bankC (xs.set (k : Int).toNat (stp 7919 (xs.getD (k : Int).toNat 0) m)) = c.setIfInBounds k (.int .i64 (stp 7919 x m)) by
          rw [HC.out, bankC_set, Int.toNat_natCast, List.getD_eq_getElem?_getD, HX.out]; rfl)
        have HG2 := hide (heap_setCell_same w1 w.heap.size k c 30 (.int .i64 (stp 7919 x m)) HG1.out)
        have HK2 := hide ((heap_setCell_other w1 ⟨w.heap.size, k, none⟩ (w.heap.size + 1) (.int .i64 (stp 7919 x m)) (by simp)).trans HK1.out)
        have HS2 := hide (show (c.setIfInBounds k (.int .i64 (stp 7919 x m))).size = 8 by rw [Array.size_setIfInBounds]; exact HS.out)
        have HB2 := hide (HB1.out.setCell (p := ⟨w.heap.size, k, none⟩) (Nat.le_refl _) (.int .i64 (stp 7919 x m)))
        have HO2 := hide (show (c.setIfInBounds k (.int .i64 (stp 7919 x m))).all (·.oneCell') = true by rw [← HV.out]; exact bankC_one _)
        go_wp2_with (fail)
        refine (two_ok x m _ HMX.out HM.out).mono ?_
        rintro e w2 ⟨rfl, rfl⟩
        go_wp2_with (first | ((with_reducible refine wpl_load 3 ?_ ?_ _ ?_ _ _ HG2.out HS2.out ?_); rfl; rfl; rfl) | ((with_reducible refine wpl_store 6 37 ?_ ?_ _ ?_ _ _ ?_ HK2.out noBank_size HS2.out HO2.out ?_); rfl; rfl; rfl; rfl))
        refine bodyPost_ret (v := .tuple #[.agg (c.setIfInBounds k (.int .i64 (stp 7919 x m))), .nilIface]) ?_ rfl ⟨?_, ?_⟩
        · exact results_bank (p := 6) (u := 7) rfl _ _ (w.heap.size + 1) _ _ rfl rfl (setRow_heap _ _ _ _ _ _ HK2.out) HS2.out
        · rw [E.out, E'.out, HV.out]; rfl
        · exact below_setRow HB2.out (by omega) _
end Go.Proofs.YtjkcplpmhjnahaaGreatDoor.Bank
namespace Go.Proofs.YtjkcplpmhjnahaaGreatDoor.Ref
open Go.ChangeShapes Go.WideShapes Go.ChangeAt Go.RowKit
open Go.Proofs.YtjkcplpmhjnahaaGreatDoor.M
set_option linter.unusedVariables false

theorem ret_int {k : IntKind} {a b : Int} (h : a = b) : Ending.returned (.int k a) = .returned (.int k b) := by rw [h]

theorem is_any (n : Int) (w : World) :
    Calls Tryz.prog 16 #[.int .i64 n] w fun e w' => e = .returned (.bool (isM n)) ∧ w' = w := by
  by_cases h0 : 0 ≤ n
  · by_cases h1 : n < 1000003
    · rw [isM_iff.2 ⟨h0, h1⟩]
      go_enter Tryz.func16, Tryz.ntmps16
      go_wp2
      go_ret
      exact ⟨rfl, rfl⟩
    · rw [isM_false.2 (by omega)]
      go_enter Tryz.func16, Tryz.ntmps16
      go_wp2
      go_ret
      exact ⟨rfl, rfl⟩
  · rw [isM_false.2 (by omega)]
    go_enter Tryz.func16, Tryz.ntmps16
    go_wp2
    go_ret
    exact ⟨rfl, rfl⟩

theorem two_ok (a b : Int) (w : World) (ha : isM a = true) (hb : isM b = true) :
    Calls Tryz.prog 18 #[.int .i64 a, .int .i64 b] w fun e w' => e = .returned (.int .i64 (stp 7919 a b)) ∧ w' = w := by
  have h1 := isM_iff.1 ha
  have h2 := isM_iff.1 hb
  obtain ⟨a0, a1⟩ := h1
  obtain ⟨b0, b1⟩ := h2
  go_enter Tryz.func18, Tryz.ntmps18
  go_wp2
  go_ret
  exact ⟨rfl, rfl⟩

set_option maxHeartbeats 400000 in
theorem text_ok (s : ByteArray) (w : World) (hl : s.size ≤ 24) :
    Calls Tryz.prog 22 #[.string s] w fun e w' => e = .returned (.int .i64 (ofFrom 1 s.data.toList)) ∧ w' = w := by
  go_enter Tryz.func22, Tryz.ntmps22
  go_wp2
  go_loop [3, 4] (fun m i => ∃ k : Nat, k ≤ s.size ∧ i = .int .i64 k ∧ m = .int .i64 (ofFrom 1 (s.data.toList.take k))) (fun _ i => s.size - (intOf i).toNat)
  case atStart => exact ⟨0, by omega, rfl, rfl⟩
  case round =>
    obtain ⟨k, hk, rfl, rfl⟩ := hrel
    have hrg := ofFrom_range 1 (s.data.toList.take k) (by omega) (by omega)
    obtain ⟨hr0, hr1⟩ := hrg
    by_cases hlt : k < s.size
    · have hb := (s[k]).toNat_lt
      have HX : Hid (s.data.toList[k]? = some s[k]) := by show s.data.toList[k]? = some s[k]; rw [List.getElem?_eq_getElem (by simpa using hlt)]; rfl
      go_wp2
      go_round
      case rel => exact ⟨k + 1, by omega, by go_num, by rw [ofFrom_take HX.out]; rfl⟩
      case measure => simp [intOf]; omega
    · go_wp2
      go_ret
      have htk : s.data.toList.take k = s.data.toList := List.take_of_length_le (by simp; omega)
      exact ⟨ret_int (by rw [htk]), rfl⟩

set_option maxHeartbeats 400000 in
theorem all_ok (a : Option Addr) (xs : List Int) (n cap : Nat) (w : World) (hn : n = xs.length) (hl : n ≤ 1000000) (hr : Row w a xs) (ho : okAll xs = true) :
    Calls Tryz.prog 37 #[.slice a n cap] w fun e w' => e = .returned (.int .i64 (allFrom 0 xs)) ∧ w' = w := by
  have HL : Hid (∀ k, k < n → ∃ x, xs[k]? = some x) := fun k hk => ⟨xs[k]'(by omega), List.getElem?_eq_getElem (by omega)⟩
  have HN : Hid (n = xs.length) := hn
  have HR : Hid (Row w a xs) := hr
  have HO : Hid (okAll xs = true) := ho
  clear hn hr ho
  go_enter Tryz.func37, Tryz.ntmps37
  go_wp2
  go_loop [3, 4] (fun m i => ∃ k : Nat, k ≤ n ∧ i = .int .i64 k ∧ m = .int .i64 (allFrom 0 (xs.take k))) (fun _ i => n - (intOf i).toNat)
  case atStart => exact ⟨0, by omega, rfl, rfl⟩
  case round =>
    obtain ⟨k, hk, rfl, rfl⟩ := hrel
    have hrg := allFrom_range 0 (xs.take k) (by omega) (by omega)
    obtain ⟨hr0, hr1⟩ := hrg
    by_cases hlt : k < n
    · obtain ⟨x, hx⟩ := HL.out k hlt
      have HX : Hid (xs[k]? = some x) := hx
      clear hx
      have hmx : isM x = true := okAll_at HO.out HX.out
      have hrow : ∃ b off, a = some ⟨b, off, none⟩ ∧ w.cell? ⟨b, off + k, none⟩ = some (.int .i64 x) := by
        rcases HR.out with h | ⟨b, off, h1, h2⟩
        · have := HX.out; rw [h] at this; simp at this
        · exact ⟨b, off, h1, h2 k x HX.out⟩
      obtain ⟨b, off, rfl, hc⟩ := hrow
      go_wp2_with (go_at_call 18; refine (two_ok _ _ _ (isM_iff.2 ⟨by assumption, by assumption⟩) (by assumption)).mono ?_; rintro e w' ⟨rfl, rfl⟩)
      go_round
      case rel => exact ⟨k + 1, by omega, by go_num, by rw [allFrom_take HX.out]⟩
      case measure => simp [intOf]; omega
    · go_wp2
      go_ret
      have htk : xs.take k = xs := List.take_of_length_le (by have := HN.out; omega)
      exact ⟨ret_int (by rw [htk]), rfl⟩
end Go.Proofs.YtjkcplpmhjnahaaGreatDoor.Ref
namespace Go.Proofs.YtjkcplpmhjnahaaGreatDoor.M
theorem let_take {l : List UInt8} {k : Nat} {b : UInt8} (h : l[k]? = some b) : (l.take (k + 1)).all letB = ((l.take k).all letB && letB b) := by
  rw [List.take_add_one, h]
  simp
theorem let_no {l : List UInt8} {k : Nat} {b : UInt8} (h : l[k]? = some b) (hb : letB b = false) : l.all letB = false := by
  apply Bool.eq_false_iff.2
  intro e
  have := List.all_eq_true.1 e b (List.mem_of_getElem? h)
  rw [hb] at this
  cases this
theorem dec_lt_len {l : List UInt8} {k acc n : Nat} (h : Lib.decFrom acc (l.take k) = some n) : n < (acc + 1) * 10 ^ (l.take k).length := Lib.decFrom_lt _ _ _ h
theorem dec_stop {l : List UInt8} {k : Nat} {b : UInt8} (h : l[k]? = some b) (hb : Lib.digitVal b = none) : ∀ acc, Lib.decFrom acc l = none := by
  induction l generalizing k with
  | nil => simp at h
  | cons c r ih =>
    intro acc
    simp only [Lib.decFrom]
    cases k with
    | zero =>
      simp at h
      subst h
      rw [hb]
    | succ k =>
      cases hc : Lib.digitVal c with
      | none => rfl
      | some d => exact ih (by simpa using h) _
end Go.Proofs.YtjkcplpmhjnahaaGreatDoor.M
namespace Go.Proofs.YtjkcplpmhjnahaaGreatDoor.Ref
open Go.ChangeShapes Go.WideShapes Go.ChangeAt Go.RowKit
open Go.Proofs.YtjkcplpmhjnahaaGreatDoor.M Go.Proofs.YtjkcplpmhjnahaaGreatDoor.Image
set_option linter.unusedVariables false

theorem at_some {s : ByteArray} {k : Nat} (h : k < s.size) : s.data.toList[k]? = some s[k] := by
  rw [List.getElem?_eq_getElem (by simpa using h)]; rfl

set_option maxHeartbeats 2000000 in
theorem letters_any (s : ByteArray) (w : World) (hs : s.size ≤ 140737488351232) :
    Calls Tryz.prog 50 #[.string s] w fun e w' => e = .returned (.bool (letS s)) ∧ w' = w := by
  go_enter Tryz.func50, Tryz.ntmps50
  go_wp2
  go_loop [3] (fun i => ∃ k : Nat, k ≤ s.size ∧ i = .int .i64 k ∧ Hid ((s.data.toList.take k).all letB = true)) (fun i => s.size - (intOf i).toNat)
  case atStart => exact ⟨0, by omega, rfl, rfl⟩
  case round =>
    obtain ⟨k, hk, rfl, HL⟩ := hrel
    by_cases hlt : k < s.size
    · have HX : Hid (s.data.toList[k]? = some s[k]) := at_some hlt
      by_cases h1 : (s[k]).toNat < 97
      · have h1z : ((s[k]).toNat : Int) < 97 := by omega
        have E := hide (show letS s = false from let_no HX.out (by unfold letB; simp; omega))
        clear h1
        go_wp2
        go_ret
        exact ⟨by rw [E.out]; rfl, rfl⟩
      · have h1z : ¬ ((s[k]).toNat : Int) < 97 := by omega
        by_cases h2 : 122 < (s[k]).toNat
        · have h2z : (122 : Int) < ((s[k]).toNat : Int) := by omega
          have E := hide (show letS s = false from let_no HX.out (by unfold letB; simp; omega))
          clear h1 h2
          go_wp2
          go_ret
          exact ⟨by rw [E.out]; rfl, rfl⟩
        · have h2z : ¬ (122 : Int) < ((s[k]).toNat : Int) := by omega
          have E := hide (show letB s[k] = true by unfold letB; simp; omega)
          clear h1 h2
          go_wp2
          go_round
          case rel => exact ⟨k + 1, by omega, by go_num, by show (s.data.toList.take (k + 1)).all letB = true; rw [let_take HX.out, HL.out, E.out]; rfl⟩
          case measure => simp [intOf]; omega
    · have E := hide (show letS s = true by
        have := HL.out
        rw [List.take_of_length_le (by rw [len_size]; omega)] at this
        exact this)
      go_wp2
      go_ret
      exact ⟨by rw [E.out]; rfl, rfl⟩

theorem digit_text : ∀ d : Fin 10, (ByteArray.extract { data := #[48, 49, 50, 51, 52, 53, 54, 55, 56, 57] } d.val (d.val + 1)) = { data := #[UInt8.ofNat (48 + d.val)] } := by decide +kernel
theorem append_text (l r : List UInt8) : ({ data := l.toArray } : ByteArray) ++ { data := r.toArray } = { data := (l ++ r).toArray } := by
  apply byte_ext
  simp [ByteArray.data_append]

set_option maxHeartbeats 2000000 in
theorem digits_any : ∀ (f n : Nat) (w : World), n ≤ f → n ≤ 2000000 → Calls Tryz.prog 9 #[.int .i64 n] w fun e w' => e = .returned (.string { data := (Lib.decDigits n).toArray }) ∧ w' = w
  | f, n, w, hf, hm => by
    by_cases h : n < 10
    · have E := hide (show ByteArray.extract { data := #[48, 49, 50, 51, 52, 53, 54, 55, 56, 57] } n (n + 1) = { data := (Lib.decDigits n).toArray } by rw [digit_text ⟨n, h⟩, dec_small h])
      have hz : (n : Int) < 10 := by omega
      have c1 : (0 : Int) ≤ n := by omega
      have c2 : (n : Int) ≤ n + 1 := by omega
      have c3 : (n : Int) + 1 ≤ 10 := by omega
      go_enter Tryz.func9, Tryz.ntmps9
      go_wp2
      go_ret
      exact ⟨by rw [← E.out]; rfl, rfl⟩
    · cases f with
      | zero => omega
      | succ f =>
        have IH := digits_any f (n / 10) w (by omega) (by omega)
        obtain ⟨d, hdd⟩ : ∃ d, n % 10 = d := ⟨_, rfl⟩
        have hd : d < 10 := by omega
        have E := hide (show ({ data := (Lib.decDigits (n / 10)).toArray } : ByteArray) ++ ByteArray.extract { data := #[48, 49, 50, 51, 52, 53, 54, 55, 56, 57] } d (d + 1) = { data := (Lib.decDigits n).toArray } by rw [digit_text ⟨d, hd⟩, dec_big h, hdd]; exact append_text _ _)
        have hz : ¬ (n : Int) < 10 := by omega
        have hq : (n : Int) / 10 = ((n / 10 : Nat) : Int) := by omega
        have hr : (n : Int) % 10 = (d : Int) := by omega
        have hl : (Lib.decDigits (n / 10)).length ≤ 7 := dec_len 6 _ (by omega)
        have q1 : ¬ 9223372036854775807 < (Lib.decDigits (n / 10)).length + 1 := by omega
        have HQ := hide hq
        have HR := hide hr
        clear hdd hq hr
        have c1 : (0 : Int) ≤ d := by omega
        have c2 : (d : Int) ≤ d + 1 := by omega
        have c3 : (d : Int) + 1 ≤ 10 := by omega
        go_enter Tryz.func9, Tryz.ntmps9
        go_wp2_with (fail)
        rw [HQ.out, HR.out]
        refine IH.mono ?_
        rintro e w1 ⟨rfl, rfl⟩
        have hs1 : (ByteArray.extract { data := #[48, 49, 50, 51, 52, 53, 54, 55, 56, 57] } d (d + 1)).size = 1 := by rw [digit_text ⟨d, hd⟩]; rfl
        go_wp2
        go_ret
        exact ⟨by rw [← E.out]; rfl, rfl⟩

set_option maxHeartbeats 4000000 in
theorem number_any (s : ByteArray) (w : World) (hs : s.size ≤ 140737488351232) :
    Calls Tryz.prog 15 #[.string s, .int .i64 4] w fun e w' => e = .returned (.tuple #[.int .i64 (numV s), .bool (numO s.data.toList).isSome]) ∧ w' = w := by
  have hbad : ∀ h : numO s.data.toList = none, Hid (numV s = 0 ∧ (numO s.data.toList).isSome = false) := fun h => ⟨(num_none h).1, by rw [h]; rfl⟩
  by_cases h0 : s.size = 0
  · have h1 := empty_is h0
    have E := hbad (by unfold numO; rw [if_pos (Or.inl (List.eq_nil_of_length_eq_zero (by rw [len_size]; exact h0)))])
    clear h0 hbad
    go_enter Tryz.func15, Tryz.ntmps15
    go_wp2
    go_ret2
    exact ⟨by rw [E.out.1, E.out.2]; rfl, rfl⟩
  · have h1 := empty_not h0
    by_cases h4 : 4 < s.size
    · have E := hbad (numO_long (by rw [len_size]; exact h4))
      have h4z : (4 : Int) < (s.size : Int) := by omega
      clear h0 h4 hbad
      go_enter Tryz.func15, Tryz.ntmps15
      go_wp2
      go_ret2
      exact ⟨by rw [E.out.1, E.out.2]; rfl, rfl⟩
    · have h4z : ¬ (4 : Int) < (s.size : Int) := by omega
      have hlt0 : 0 < s.size := by omega
      have HX0 : Hid (s.data.toList[0]? = some s[0]) := at_some hlt0
      have HH0 : Hid (s.data.toList.head? = some s[0]) := by show s.data.toList.head? = some s[0]; rw [List.head?_eq_getElem?]; exact HX0.out
      have h48i : s[0] = 48 ↔ ((s[0]).toNat : Int) = 48 := by
        constructor
        · intro e; rw [e]; rfl
        · intro e
          apply UInt8.toNat_inj.1
          have : (48 : UInt8).toNat = 48 := rfl
          omega
      by_cases hA : s[0] = 48 ∧ 1 < s.size
      · have E := hbad (by unfold numO; rw [if_pos (Or.inr (Or.inr ⟨by rw [HH0.out, hA.1], by rw [len_size]; exact hA.2⟩))])
        have h48 := h48i.1 hA.1
        have hlen : (1 : Int) < (s.size : Int) := by omega
        clear hA h0 h4 hbad h48i
        go_enter Tryz.func15, Tryz.ntmps15
        go_wp2
        go_ret2
        exact ⟨by rw [E.out.1, E.out.2]; rfl, rfl⟩
      · have HN : Hid (numO s.data.toList = Lib.decFrom 0 s.data.toList) := by
          show numO s.data.toList = Lib.decFrom 0 s.data.toList
          unfold numO
          rw [if_neg]
          intro hh
          rcases hh with hh | hh | ⟨g1, g2⟩
          · have := len_size s
            rw [hh] at this
            simp at this
            omega
          · rw [len_size] at hh; omega
          · rw [HH0.out] at g1
            rw [len_size] at g2
            exact hA ⟨Option.some.inj g1, g2⟩
        go_enter Tryz.func15, Tryz.ntmps15
        go_upto_region 1 with (fail)
        go_cut [25] (fun s25 w' => s25 = .bool false ∧ w' = w)
        case first =>
          by_cases h48 : ((s[0]).toNat : Int) = 48
          · have hlen : ¬ (1 : Int) < (s.size : Int) := fun h => hA ⟨h48i.2 h48, by omega⟩
            clear hA h0 h4 hbad h48i
            go_wp2
            go_meet
            exact ⟨by first | rfl | simp_all, rfl⟩
          · clear hA h0 h4 hbad h48i
            go_wp2
            go_meet
            exact ⟨by first | rfl | simp_all, rfl⟩
        case rest =>
        obtain ⟨rfl, rfl⟩ := hcut
        obtain ⟨wa, hwa⟩ : ∃ wa, wa = wc := ⟨_, rfl⟩
        subst hwa
        clear h48i hA
        go_wp2
        go_loop [6, 7] (fun m i => ∃ k a : Nat, k ≤ s.size ∧ i = .int .i64 k ∧ m = .int .i64 a ∧ a < 10000 ∧ Hid (Lib.decFrom 0 (s.data.toList.take k) = some a)) (fun _ i => s.size - (intOf i).toNat)
        case atStart => exact ⟨0, 0, by omega, rfl, rfl, by omega, rfl⟩
        case round =>
          obtain ⟨k, a, hk, rfl, rfl, ha, HD⟩ := hrel
          by_cases hlt : k < s.size
          · have HX : Hid (s.data.toList[k]? = some s[k]) := at_some hlt
            by_cases g1 : (s[k]).toNat < 48
            · have E := hbad (by rw [HN.out]; exact dec_stop HX.out (by unfold Lib.digitVal; rw [if_neg (by omega)]) 0)
              have g1z : ((s[k]).toNat : Int) < 48 := by omega
              clear g1 hbad
              go_wp2
              go_ret2
              exact ⟨by rw [E.out.1, E.out.2]; rfl, rfl⟩
            · have g1z : ¬ ((s[k]).toNat : Int) < 48 := by omega
              by_cases g2 : 57 < (s[k]).toNat
              · have E := hbad (by rw [HN.out]; exact dec_stop HX.out (by unfold Lib.digitVal; rw [if_neg (by omega)]) 0)
                have g2z : (57 : Int) < ((s[k]).toNat : Int) := by omega
                clear g1 g2 hbad
                go_wp2
                go_ret2
                exact ⟨by rw [E.out.1, E.out.2]; rfl, rfl⟩
              · have g2z : ¬ (57 : Int) < ((s[k]).toNat : Int) := by omega
                have HV := hide (show Lib.digitVal s[k] = some ((s[k]).toNat - 48) by unfold Lib.digitVal; rw [if_pos (by omega)])
                have HT := hide (Lib.decFrom_take s.data.toList k 0 a s[k] _ HD.out HX.out HV.out)
                have hb := dec_lt_len HT.out
                have hp : 10 ^ (s.data.toList.take (k + 1)).length ≤ 10 ^ 4 := Nat.pow_le_pow_right (by omega) (by rw [List.length_take, len_size]; omega)
                have hlt4 : a * 10 + ((s[k]).toNat - 48) < 10000 := by omega
                clear hb hp hbad
                go_wp2
                go_round
                case rel => exact ⟨k + 1, a * 10 + ((s[k]).toNat - 48), by omega, by go_num, by congr 1; omega, hlt4, HT.out⟩
                case measure => simp [intOf]; omega
          · have hT : Lib.decFrom 0 s.data.toList = some a := by
              have := HD.out
              rw [List.take_of_length_le (by rw [len_size]; omega)] at this
              exact this
            have E : Hid (numV s = a ∧ (numO s.data.toList).isSome = true) := ⟨(num_some (HN.out.trans hT)).1, by rw [HN.out, hT]; rfl⟩
            clear hT hbad
            go_wp2
            go_ret2
            exact ⟨by rw [E.out.1, E.out.2]; rfl, rfl⟩
end Go.Proofs.YtjkcplpmhjnahaaGreatDoor.Ref
namespace Go.Proofs.YtjkcplpmhjnahaaGreatDoor.M
open Go.RowKit
/-- A row of texts of the call's own. -/
def OwnS (w : World) (base : Nat) (e : TypeId) (v : Value) (xs : List ByteArray) : Prop := w.ownsRow base e 1 v xs.length (xs.map Value.string)
theorem OwnS.nil (w : World) (base : Nat) (e : TypeId) : OwnS w base e (.slice none 0 0) [] := World.ownsRow_nil w base e 1
theorem OwnS.alloc {w : World} {base : Nat} {e : TypeId} {v : Value} {xs : List ByteArray} (h : OwnS w base e v xs) (o : Obj) : OwnS (w.alloc o) base e v xs := World.ownsRow.alloc h o
theorem OwnS.block {w : World} {base : Nat} {e : TypeId} {v : Value} {xs : List ByteArray} (h : OwnS w base e v xs) : ∀ k, v.ownBlock = some k → base ≤ k := fun k hk => (World.ownsRow.lt h k hk).1
theorem OwnS.slice {w : World} {base : Nat} {e : TypeId} {v : Value} {xs : List ByteArray} (h : OwnS w base e v xs) : ∃ a cap, v = .slice a xs.length cap ∧ ∀ k x, xs[k]? = some x → ∃ g, a = some ⟨g, 0, none⟩ ∧ w.cell? ⟨g, k, none⟩ = some (.string x) := by
  have h0 := h
  obtain ⟨_, h2⟩ := h
  rcases h2 with ⟨hv, hn⟩ | ⟨g, cap, cur, hv, _, _, _, _, _, _⟩
  · refine ⟨none, 0, by rw [hv, hn], fun k x hx => ?_⟩
    rw [List.length_eq_zero_iff.1 hn] at hx
    simp at hx
  · refine ⟨some ⟨g, 0, none⟩, cap, hv, fun k x hx => ⟨g, rfl, ?_⟩⟩
    have hc := World.ownsRow.cells (g := g) h0 (by rw [hv]; rfl) k (.string x) (by rw [List.getElem?_map, hx]; rfl)
    rw [add_none] at hc
    simpa using hc
theorem wpList_appS {P : Program} {w : World} {ops : Array Oper} {rest : List Oper} {o : Oper} {a : Act} {Q : Exit → Act → World → Prop} (hgd : o.guard = none) (s x : Operand) (t : TypeId)
    (ho : o.op = .call { callee := .builtin .append, args := #[s, x], argTypes := #[t, t] })
    (base : Nat) (e : TypeId) (hinfo : (P.info? e).map (fun i => (i.zero, i.size, i.bytes)) = some (some (.string ByteArray.empty), 1, 16)) (ht : P.underlying t = some (.slice e))
    (v : Value) (xs : List ByteArray) (hs : a.eval s = v) (hown : OwnS w base e v xs)
    (ad : Addr) (y : ByteArray) (hx : a.eval x = .slice (some ad) 1 1) (hcell : w.cell? ad = some (.string y))
    (hb : xs.length ≤ 2000000) (hbase : base ≤ w.heap.size)
    (h : ∀ v' w', OwnS w' base e v' (xs ++ [y]) → w.grownBy w' v.ownBlock → wpList P ops Q rest (a.put o.dst v') w') : wpList P ops Q (o :: rest) a w := by
  obtain ⟨i, hi, hz0, hz1, hz2⟩ := info_parts hinfo
  refine wpList_append_own w hgd s x t ho base e i (.string ByteArray.empty) 1 16 ht hi hz0 hz1 hz2 rfl (by decide) v xs.length _ hs hown ad 1 1 [.string y] hx (by simp) ?_ ?_ (by unfold maxLen; omega) (by omega) hbase ?_
  · intro j u hj
    cases j with
    | zero =>
      simp at hj
      subst hj
      have : ad.add 0 = ad := by cases ad with | mk b off spot => cases spot <;> simp [Addr.add]
      simpa [this] using hcell
    | succ j => simp at hj
  · intro u hu
    simp at hu
    subst hu
    rfl
  · intro v' w' h1 h2 _
    exact h v' w' (by unfold OwnS; rw [List.map_append, List.length_append]; exact h1) h2
theorem extract_list (s : ByteArray) (a b : Nat) : (s.extract a b).data.toList = (s.data.toList.drop a).take (b - a) := Lib.extract_data s a b
theorem ext_step {l : List UInt8} {f k : Nat} {b : UInt8} (h : l[k]? = some b) (hf : f ≤ k) : (l.drop f).take (k + 1 - f) = (l.drop f).take (k - f) ++ [b] := by
  rw [show k + 1 - f = k - f + 1 by omega, List.take_add_one]
  congr 1
  rw [List.getElem?_drop, show f + (k - f) = k by omega, h]
  rfl
theorem drop_at {l : List UInt8} {k : Nat} {b : UInt8} (h : l[k]? = some b) : l.drop k = b :: l.drop (k + 1) := by
  obtain ⟨hk, e⟩ := List.getElem?_eq_some_iff.1 h
  rw [List.drop_eq_getElem_cons hk, e]
end Go.Proofs.YtjkcplpmhjnahaaGreatDoor.M
namespace Go.Proofs.YtjkcplpmhjnahaaGreatDoor.Ref
open Go.ChangeShapes Go.WideShapes Go.ChangeAt Go.RowKit
open Go.Proofs.YtjkcplpmhjnahaaGreatDoor.M Go.Proofs.YtjkcplpmhjnahaaGreatDoor.Image
set_option linter.unusedVariables false

theorem info_str : (Tryz.prog.info? 9).map (fun i => (i.zero, i.size, i.bytes)) = some (some (.string ByteArray.empty), 1, 16) := by kernel_rfl

set_option maxHeartbeats 4000000 in
theorem cut_any (s : ByteArray) (w : World) (hs : s.size ≤ 1048576) :
    Calls Tryz.prog 7 #[.string s, .int .u8 32] w fun e w' => (∃ v ps, e = .returned v ∧ OwnS w' w.heap.size 9 v ps ∧ ps.map (fun x => x.data.toList) = cutL s.data.toList) ∧ Below w.heap.size w w' := by
  go_enter Tryz.func7, Tryz.ntmps7
  go_wp2
  go_loopw [5, 6, 7] (fun out from_ i wr => ∃ (k f : Nat) (ps : List ByteArray), k ≤ s.size ∧ f ≤ k ∧ i = .int .i64 k ∧ from_ = .int .i64 f ∧ ps.length ≤ k ∧ Hid (OwnS wr w.heap.size 9 out ps) ∧ Hid (Below w.heap.size w wr) ∧
    Hid (ps.map (fun x => x.data.toList) ++ cutAcc ((s.data.toList.drop f).take (k - f)) (s.data.toList.drop k) = cutL s.data.toList)) (fun _ _ i _ => s.size - (intOf i).toNat)
  case atStart => exact ⟨0, 0, [], by omega, by omega, rfl, rfl, by simp, OwnS.nil _ _ _, Below.refl _ _, (show ([] : List ByteArray).map (fun x => x.data.toList) ++ cutAcc ((s.data.toList.drop 0).take (0 - 0)) (s.data.toList.drop 0) = cutL s.data.toList by simp [cutL])⟩
  case round =>
    obtain ⟨k, f, ps, hk, hf, rfl, rfl, hp, HO, HB, HC⟩ := hrel
    have hsz := HB.out.size
    by_cases hlt : k < s.size
    · have HX : Hid (s.data.toList[k]? = some s[k]) := at_some hlt
      have c1 : (0 : Int) ≤ f := by omega
      have c2 : (f : Int) ≤ k := by omega
      have c3 : (k : Int) ≤ s.size := by omega
      by_cases h32 : s[k] = 32
      · have h32z : ((s[k]).toNat : Int) = 32 := by rw [h32]; rfl
        have HS : Hid ((ps ++ [s.extract f k]).map (fun x => x.data.toList) ++ cutAcc ((s.data.toList.drop (k + 1)).take (k + 1 - (k + 1))) (s.data.toList.drop (k + 1)) = cutL s.data.toList) := by
          show (ps ++ [s.extract f k]).map (fun x => x.data.toList) ++ cutAcc ((s.data.toList.drop (k + 1)).take (k + 1 - (k + 1))) (s.data.toList.drop (k + 1)) = cutL s.data.toList
          rw [← HC.out, drop_at HX.out, cutAcc, if_pos h32, List.map_append, List.map_singleton, extract_list]
          simp
        clear h32
        go_wp2_with (at_builtin; refine wpList_appS rfl _ _ 23 rfl w.heap.size 9 info_str Tryz.underlying23 _ ps rfl (HO.out.alloc _) ⟨wr.heap.size, 0, none⟩ (s.extract f k) rfl (by simp) (by omega) (by simp; omega) ?_; intro v' w1 ho hgr)
        go_roundw
        case rel => exact ⟨k + 1, k + 1, ps ++ [s.extract f k], by omega, by omega, by go_num, by go_num, by simp; omega, ho, (HB.out.alloc hsz _).grown hgr (by simp; omega) (fun k hk => HO.out.block k hk), HS.out⟩
        case measure => simp [intOf]; omega
      · have h32z : ¬ ((s[k]).toNat : Int) = 32 := by
          intro e
          apply h32
          apply UInt8.toNat_inj.1
          have : (32 : UInt8).toNat = 32 := rfl
          omega
        have HS : Hid (ps.map (fun x => x.data.toList) ++ cutAcc ((s.data.toList.drop f).take (k + 1 - f)) (s.data.toList.drop (k + 1)) = cutL s.data.toList) := by
          show ps.map (fun x => x.data.toList) ++ cutAcc ((s.data.toList.drop f).take (k + 1 - f)) (s.data.toList.drop (k + 1)) = cutL s.data.toList
          rw [← HC.out, drop_at HX.out, cutAcc, if_neg h32, ext_step HX.out hf]
        clear h32
        go_wp2
        go_roundw
        case rel => exact ⟨k + 1, f, ps, by omega, by omega, by go_num, rfl, by omega, HO.out, HB.out, HS.out⟩
        case measure => simp [intOf]; omega
    · have hk2 : k = s.size := by omega
      subst hk2
      have HS : Hid ((ps ++ [s.extract f s.size]).map (fun x => x.data.toList) = cutL s.data.toList) := by
        show (ps ++ [s.extract f s.size]).map (fun x => x.data.toList) = cutL s.data.toList
        rw [← HC.out, show s.data.toList.drop s.size = [] from List.drop_eq_nil_of_le (by rw [len_size]; exact Nat.le_refl _), cutAcc, List.map_append, List.map_singleton, extract_list]
      have c1 : (0 : Int) ≤ f := by omega
      have c2 : (f : Int) ≤ s.size := by omega
      go_wp2_with (at_builtin; refine wpList_appS rfl _ _ 23 rfl w.heap.size 9 info_str Tryz.underlying23 _ ps rfl (HO.out.alloc _) ⟨wr.heap.size, 0, none⟩ (s.extract f s.size) rfl (by simp) (by omega) (by simp; omega) ?_; intro v' w1 ho hgr)
      go_ret
      exact ⟨⟨v', ps ++ [s.extract f s.size], rfl, ho, HS.out⟩, (HB.out.alloc hsz _).grown hgr (by simp; omega) (fun k hk => HO.out.block k hk)⟩
end Go.Proofs.YtjkcplpmhjnahaaGreatDoor.Ref
namespace Go.Proofs.YtjkcplpmhjnahaaGreatDoor.M
/-- A text cut at a byte; acc: what stands since the last one. -/
def cutG (c : UInt8) (acc : List UInt8) : List UInt8 → List (List UInt8)
  | [] => [acc]
  | b :: l => if b = c then acc :: cutG c [] l else cutG c (acc ++ [b]) l
/-- A number of at most seven digits, without a needless nought. -/
def numP (l : List UInt8) : Option Nat := if l = [] ∨ 7 < l.length ∨ (l.head? = some 48 ∧ 1 < l.length) then none else Lib.decFrom 0 l
def numW (s : ByteArray) : Int := match numP s.data.toList with
  | none => 0
  | some n => n
theorem numW_none {s : ByteArray} (h : numP s.data.toList = none) : numW s = 0 ∧ True := by unfold numW; rw [h]; exact ⟨rfl, trivial⟩
theorem numW_some {s : ByteArray} {n : Nat} (h : numP s.data.toList = some n) : numW s = n ∧ True := by unfold numW; rw [h]; exact ⟨rfl, trivial⟩
theorem numP_long {l : List UInt8} (h : 7 < l.length) : numP l = none := by unfold numP; rw [if_pos (Or.inr (Or.inl h))]
end Go.Proofs.YtjkcplpmhjnahaaGreatDoor.M
namespace Go.Proofs.YtjkcplpmhjnahaaGreatDoor.Ref
open Go.ChangeShapes Go.WideShapes Go.ChangeAt Go.RowKit
open Go.Proofs.YtjkcplpmhjnahaaGreatDoor.M Go.Proofs.YtjkcplpmhjnahaaGreatDoor.Image
set_option linter.unusedVariables false

set_option maxHeartbeats 4000000 in
theorem cutAt_any (c : UInt8) (cz : Int) (hcz : cz = (c.toNat : Int)) (s : ByteArray) (w : World) (hs : s.size ≤ 1048576) :
    Calls Tryz.prog 7 #[.string s, .int .u8 cz] w fun e w' => (∃ v ps, e = .returned v ∧ OwnS w' w.heap.size 9 v ps ∧ ps.map (fun x => x.data.toList) = cutG c [] s.data.toList) ∧ Below w.heap.size w w' := by
  have HCZ := hide hcz
  clear hcz
  go_enter Tryz.func7, Tryz.ntmps7
  go_wp2
  go_loopw [5, 6, 7] (fun out from_ i wr => ∃ (k f : Nat) (ps : List ByteArray), k ≤ s.size ∧ f ≤ k ∧ i = .int .i64 k ∧ from_ = .int .i64 f ∧ ps.length ≤ k ∧ Hid (OwnS wr w.heap.size 9 out ps) ∧ Hid (Below w.heap.size w wr) ∧
    Hid (ps.map (fun x => x.data.toList) ++ cutG c ((s.data.toList.drop f).take (k - f)) (s.data.toList.drop k) = cutG c [] s.data.toList)) (fun _ _ i _ => s.size - (intOf i).toNat)
  case atStart => exact ⟨0, 0, [], by omega, by omega, rfl, rfl, by simp, OwnS.nil _ _ _, Below.refl _ _, (show ([] : List ByteArray).map (fun x => x.data.toList) ++ cutG c ((s.data.toList.drop 0).take (0 - 0)) (s.data.toList.drop 0) = cutG c [] s.data.toList by simp)⟩
  case round =>
    obtain ⟨k, f, ps, hk, hf, rfl, rfl, hp, HO, HB, HC⟩ := hrel
    have hsz := HB.out.size
    by_cases hlt : k < s.size
    · have HX : Hid (s.data.toList[k]? = some s[k]) := at_some hlt
      have c1 : (0 : Int) ≤ f := by omega
      have c2 : (f : Int) ≤ k := by omega
      have c3 : (k : Int) ≤ s.size := by omega
      by_cases h32 : s[k] = c
      · have h32z : ((s[k]).toNat : Int) = cz := by rw [h32, HCZ.out]
        have HS : Hid ((ps ++ [s.extract f k]).map (fun x => x.data.toList) ++ cutG c ((s.data.toList.drop (k + 1)).take (k + 1 - (k + 1))) (s.data.toList.drop (k + 1)) = cutG c [] s.data.toList) := by
          show (ps ++ [s.extract f k]).map (fun x => x.data.toList) ++ cutG c ((s.data.toList.drop (k + 1)).take (k + 1 - (k + 1))) (s.data.toList.drop (k + 1)) = cutG c [] s.data.toList
          rw [← HC.out, drop_at HX.out, cutG, if_pos h32, List.map_append, List.map_singleton, extract_list]
          simp
        clear h32
        go_wp2_with (at_builtin; refine wpList_appS rfl _ _ 23 rfl w.heap.size 9 info_str Tryz.underlying23 _ ps rfl (HO.out.alloc _) ⟨wr.heap.size, 0, none⟩ (s.extract f k) rfl (by simp) (by omega) (by simp; omega) ?_; intro v' w1 ho hgr)
        go_roundw
        case rel => exact ⟨k + 1, k + 1, ps ++ [s.extract f k], by omega, by omega, by go_num, by go_num, by simp; omega, ho, (HB.out.alloc hsz _).grown hgr (by simp; omega) (fun k hk => HO.out.block k hk), HS.out⟩
        case measure => simp [intOf]; omega
      · have h32z : ¬ ((s[k]).toNat : Int) = cz := by
          intro e
          apply h32
          apply UInt8.toNat_inj.1
          have := HCZ.out
          omega
        have HS : Hid (ps.map (fun x => x.data.toList) ++ cutG c ((s.data.toList.drop f).take (k + 1 - f)) (s.data.toList.drop (k + 1)) = cutG c [] s.data.toList) := by
          show ps.map (fun x => x.data.toList) ++ cutG c ((s.data.toList.drop f).take (k + 1 - f)) (s.data.toList.drop (k + 1)) = cutG c [] s.data.toList
          rw [← HC.out, drop_at HX.out, cutG, if_neg h32, ext_step HX.out hf]
        clear h32
        go_wp2
        go_roundw
        case rel => exact ⟨k + 1, f, ps, by omega, by omega, by go_num, rfl, by omega, HO.out, HB.out, HS.out⟩
        case measure => simp [intOf]; omega
    · have hk2 : k = s.size := by omega
      subst hk2
      have HS : Hid ((ps ++ [s.extract f s.size]).map (fun x => x.data.toList) = cutG c [] s.data.toList) := by
        show (ps ++ [s.extract f s.size]).map (fun x => x.data.toList) = cutG c [] s.data.toList
        rw [← HC.out, show s.data.toList.drop s.size = [] from List.drop_eq_nil_of_le (by rw [len_size]; exact Nat.le_refl _), cutG, List.map_append, List.map_singleton, extract_list]
      have c1 : (0 : Int) ≤ f := by omega
      have c2 : (f : Int) ≤ s.size := by omega
      go_wp2_with (at_builtin; refine wpList_appS rfl _ _ 23 rfl w.heap.size 9 info_str Tryz.underlying23 _ ps rfl (HO.out.alloc _) ⟨wr.heap.size, 0, none⟩ (s.extract f s.size) rfl (by simp) (by omega) (by simp; omega) ?_; intro v' w1 ho hgr)
      go_ret
      exact ⟨⟨v', ps ++ [s.extract f s.size], rfl, ho, HS.out⟩, (HB.out.alloc hsz _).grown hgr (by simp; omega) (fun k hk => HO.out.block k hk)⟩
set_option maxHeartbeats 4000000 in
theorem number7_any (s : ByteArray) (w : World) (hs : s.size ≤ 140737488351232) :
    Calls Tryz.prog 15 #[.string s, .int .i64 7] w fun e w' => e = .returned (.tuple #[.int .i64 (numW s), .bool (numP s.data.toList).isSome]) ∧ w' = w := by
  have hbad : ∀ h : numP s.data.toList = none, Hid (numW s = 0 ∧ (numP s.data.toList).isSome = false) := fun h => ⟨(numW_none h).1, by rw [h]; rfl⟩
  by_cases h0 : s.size = 0
  · have h1 := empty_is h0
    have E := hbad (by unfold numP; rw [if_pos (Or.inl (List.eq_nil_of_length_eq_zero (by rw [len_size]; exact h0)))])
    clear h0 hbad
    go_enter Tryz.func15, Tryz.ntmps15
    go_wp2
    go_ret2
    exact ⟨by rw [E.out.1, E.out.2]; rfl, rfl⟩
  · have h1 := empty_not h0
    by_cases h4 : 7 < s.size
    · have E := hbad (numP_long (by rw [len_size]; exact h4))
      have h4z : (7 : Int) < (s.size : Int) := by omega
      clear h0 h4 hbad
      go_enter Tryz.func15, Tryz.ntmps15
      go_wp2
      go_ret2
      exact ⟨by rw [E.out.1, E.out.2]; rfl, rfl⟩
    · have h4z : ¬ (7 : Int) < (s.size : Int) := by omega
      have hlt0 : 0 < s.size := by omega
      have HX0 : Hid (s.data.toList[0]? = some s[0]) := at_some hlt0
      have HH0 : Hid (s.data.toList.head? = some s[0]) := by show s.data.toList.head? = some s[0]; rw [List.head?_eq_getElem?]; exact HX0.out
      have h48i : s[0] = 48 ↔ ((s[0]).toNat : Int) = 48 := by
        constructor
        · intro e; rw [e]; rfl
        · intro e
          apply UInt8.toNat_inj.1
          have : (48 : UInt8).toNat = 48 := rfl
          omega
      by_cases hA : s[0] = 48 ∧ 1 < s.size
      · have E := hbad (by unfold numP; rw [if_pos (Or.inr (Or.inr ⟨by rw [HH0.out, hA.1], by rw [len_size]; exact hA.2⟩))])
        have h48 := h48i.1 hA.1
        have hlen : (1 : Int) < (s.size : Int) := by omega
        clear hA h0 h4 hbad h48i
        go_enter Tryz.func15, Tryz.ntmps15
        go_wp2
        go_ret2
        exact ⟨by rw [E.out.1, E.out.2]; rfl, rfl⟩
      · have HN : Hid (numP s.data.toList = Lib.decFrom 0 s.data.toList) := by
          show numP s.data.toList = Lib.decFrom 0 s.data.toList
          unfold numP
          rw [if_neg]
          intro hh
          rcases hh with hh | hh | ⟨g1, g2⟩
          · have := len_size s
            rw [hh] at this
            simp at this
            omega
          · rw [len_size] at hh; omega
          · rw [HH0.out] at g1
            rw [len_size] at g2
            exact hA ⟨Option.some.inj g1, g2⟩
        go_enter Tryz.func15, Tryz.ntmps15
        go_upto_region 1 with (fail)
        go_cut [25] (fun s25 w' => s25 = .bool false ∧ w' = w)
        case first =>
          by_cases h48 : ((s[0]).toNat : Int) = 48
          · have hlen : ¬ (1 : Int) < (s.size : Int) := fun h => hA ⟨h48i.2 h48, by omega⟩
            clear hA h0 h4 hbad h48i
            go_wp2
            go_meet
            exact ⟨by first | rfl | simp_all, rfl⟩
          · clear hA h0 h4 hbad h48i
            go_wp2
            go_meet
            exact ⟨by first | rfl | simp_all, rfl⟩
        case rest =>
        obtain ⟨rfl, rfl⟩ := hcut
        obtain ⟨wa, hwa⟩ : ∃ wa, wa = wc := ⟨_, rfl⟩
        subst hwa
        clear h48i hA
        go_wp2
        go_loop [6, 7] (fun m i => ∃ k a : Nat, k ≤ s.size ∧ i = .int .i64 k ∧ m = .int .i64 a ∧ a < 10000000 ∧ Hid (Lib.decFrom 0 (s.data.toList.take k) = some a)) (fun _ i => s.size - (intOf i).toNat)
        case atStart => exact ⟨0, 0, by omega, rfl, rfl, by omega, rfl⟩
        case round =>
          obtain ⟨k, a, hk, rfl, rfl, ha, HD⟩ := hrel
          by_cases hlt : k < s.size
          · have HX : Hid (s.data.toList[k]? = some s[k]) := at_some hlt
            by_cases g1 : (s[k]).toNat < 48
            · have E := hbad (by rw [HN.out]; exact dec_stop HX.out (by unfold Lib.digitVal; rw [if_neg (by omega)]) 0)
              have g1z : ((s[k]).toNat : Int) < 48 := by omega
              clear g1 hbad
              go_wp2
              go_ret2
              exact ⟨by rw [E.out.1, E.out.2]; rfl, rfl⟩
            · have g1z : ¬ ((s[k]).toNat : Int) < 48 := by omega
              by_cases g2 : 57 < (s[k]).toNat
              · have E := hbad (by rw [HN.out]; exact dec_stop HX.out (by unfold Lib.digitVal; rw [if_neg (by omega)]) 0)
                have g2z : (57 : Int) < ((s[k]).toNat : Int) := by omega
                clear g1 g2 hbad
                go_wp2
                go_ret2
                exact ⟨by rw [E.out.1, E.out.2]; rfl, rfl⟩
              · have g2z : ¬ (57 : Int) < ((s[k]).toNat : Int) := by omega
                have HV := hide (show Lib.digitVal s[k] = some ((s[k]).toNat - 48) by unfold Lib.digitVal; rw [if_pos (by omega)])
                have HT := hide (Lib.decFrom_take s.data.toList k 0 a s[k] _ HD.out HX.out HV.out)
                have hb := dec_lt_len HT.out
                have hp : 10 ^ (s.data.toList.take (k + 1)).length ≤ 10 ^ 7 := Nat.pow_le_pow_right (by omega) (by rw [List.length_take, len_size]; omega)
                have hlt4 : a * 10 + ((s[k]).toNat - 48) < 10000000 := by omega
                clear hb hp hbad
                go_wp2
                go_round
                case rel => exact ⟨k + 1, a * 10 + ((s[k]).toNat - 48), by omega, by go_num, by congr 1; omega, hlt4, HT.out⟩
                case measure => simp [intOf]; omega
          · have hT : Lib.decFrom 0 s.data.toList = some a := by
              have := HD.out
              rw [List.take_of_length_le (by rw [len_size]; omega)] at this
              exact this
            have E : Hid (numW s = a ∧ (numP s.data.toList).isSome = true) := ⟨(numW_some (HN.out.trans hT)).1, by rw [HN.out, hT]; rfl⟩
            clear hT hbad
            go_wp2
            go_ret2
            exact ⟨by rw [E.out.1, E.out.2]; rfl, rfl⟩
end Go.Proofs.YtjkcplpmhjnahaaGreatDoor.Ref
namespace Go.Proofs.YtjkcplpmhjnahaaGreatDoor.M

/-- A number to a power, modulo the group. -/
def pw (a n : Nat) : Nat := a ^ n % 1543
theorem pw_lt (a n : Nat) : pw a n < 1543 := Nat.mod_lt _ (by omega)
theorem pw_zero (a : Nat) : pw a 0 = 1 := by unfold pw; rw [Nat.pow_zero]
theorem pw_one {a : Nat} (h : a < 1543) : pw a 1 = a := by unfold pw; rw [Nat.pow_one, Nat.mod_eq_of_lt h]
theorem pw_add (a m n : Nat) : pw a (m + n) = pw a m * pw a n % 1543 := by unfold pw; rw [Nat.pow_add, Nat.mul_mod]
theorem pw_succ (a n : Nat) : pw a (n + 1) = pw a n * a % 1543 := by
  rw [pw_add]
  unfold pw
  rw [Nat.pow_one]
  simp [Nat.mul_mod]
theorem pw_mul (a m n : Nat) : pw a (m * n) = pw (pw a m) n := by
  unfold pw
  rw [Nat.pow_mul]
  exact Nat.pow_mod _ _ _
theorem pw_even (a n : Nat) : pw a (2 * n) = pw a n * pw a n % 1543 := by rw [show 2 * n = n + n by omega, pw_add]
theorem pw_half_even {a n : Nat} (h : n % 2 = 0) : pw a n = pw a (n / 2) * pw a (n / 2) % 1543 := by rw [← pw_even, show 2 * (n / 2) = n by omega]
theorem pw_half_odd {a n : Nat} (h : n % 2 = 1) : pw a n = (pw a (n / 2) * pw a (n / 2) % 1543) * a % 1543 := by
  rw [← pw_even, ← pw_succ, show 2 * (n / 2) + 1 = n by omega]
/-- 64 has the order 257. -/
theorem pw_order : pw 64 257 = 1 := by decide +kernel
theorem pw_mod (n : Nat) : pw 64 (n % 257) = pw 64 n := by
  have h : pw 64 n = pw 64 (257 * (n / 257)) * pw 64 (n % 257) % 1543 := by rw [← pw_add, Nat.div_add_mod]
  have h1 : ∀ k, pw 1 k = 1 := fun k => by unfold pw; rw [Nat.one_pow]
  rw [h, pw_mul, pw_order, h1, Nat.one_mul, Nat.mod_eq_of_lt (pw_lt _ _)]
/-- The powers of 64, as far as they are unlike. -/
def pws : List Nat := (List.range 257).map (pw 64)
theorem pws_nodup : pws.Nodup := by
  have h : decide pws.Nodup = true := by decide +kernel
  exact of_decide_eq_true h
theorem pw_inj {i j : Nat} (hi : i < 257) (hj : j < 257) (h : pw 64 i = pw 64 j) : i = j := by
  have li : i < pws.length := by simp [pws]; exact hi
  have lj : j < pws.length := by simp [pws]; exact hj
  have e : pws[i] = pws[j] := by simpa [pws] using h
  exact (List.getElem_inj pws_nodup).1 e
theorem pw_iff {i j : Nat} (hi : i < 257) (hj : j < 257) : pw 64 i = pw 64 j ↔ i = j := ⟨pw_inj hi hj, fun e => by rw [e]⟩
theorem pw_pos_fin : ∀ k : Fin 257, 1 ≤ pw 64 k.val := by decide +kernel
theorem pw_pos (n : Nat) : 1 ≤ pw 64 n := by
  rw [← pw_mod]
  exact pw_pos_fin ⟨n % 257, Nat.mod_lt _ (by omega)⟩
theorem pw_ne_one {x : Nat} (h1 : 1 ≤ x) (h2 : x ≤ 256) : pw 64 x ≠ 1 := by
  intro e
  have := pw_inj (i := x) (j := 0) (by omega) (by omega) (by rw [e, pw_zero])
  omega
/-- A seal is right by its key: Schnorr. -/
theorem seal_right (k c x : Nat) : pw 64 ((k + c * x) % 257) = pw 64 k * pw (pw 64 x) c % 1543 := by
  rw [pw_mod, pw_add, Nat.mul_comm c x, pw_mul]
/-- With another answer it is not. -/
theorem seal_other {k c x other : Nat} (h : other < 257) : pw 64 other = pw 64 k * pw (pw 64 x) c % 1543 ↔ other = (k + c * x) % 257 := by
  rw [← seal_right]
  exact pw_iff h (Nat.mod_lt _ (by omega))
/-- Two seals by one number: what the challenges are apart, times the secret, is what the answers are apart. -/
theorem seal_two (k a b x : Nat) : ((((a : Int) - b + 257) * x - ((((k + a * x) % 257 : Nat) : Int) - (((k + b * x) % 257 : Nat) : Int) + 257))) % 257 = 0 := by
  have e : ((a : Int) - b + 257) * x = (a * x : Nat) - (b * x : Nat) + 257 * x := by
    rw [Int.add_mul, Int.sub_mul]
    simp [Int.natCast_mul]
  rw [e]
  generalize a * x = p
  generalize b * x = q
  omega
theorem seal_two_tmod (k a b x : Nat) : Int.tmod (((a : Int) - b + 257) * x - ((((k + a * x) % 257 : Nat) : Int) - (((k + b * x) % 257 : Nat) : Int) + 257)) 257 = 0 :=
  Int.tmod_eq_zero_of_dvd (Int.dvd_of_emod_eq_zero (seal_two k a b x))
end Go.Proofs.YtjkcplpmhjnahaaGreatDoor.M
namespace Go.Proofs.YtjkcplpmhjnahaaGreatDoor.M

/-- Is it a secret? Is it of the group? May it be an answer? -/
def secB (x : Int) : Bool := decide (1 ≤ x ∧ x < 257)
def inB (n : Int) : Bool := decide (1 ≤ n ∧ n < 1543)
def ansB (n : Int) : Bool := decide (0 ≤ n ∧ n < 257)
theorem secB_iff {x : Int} : secB x = true ↔ 1 ≤ x ∧ x < 257 := by unfold secB; simp
theorem secB_not {x : Int} : secB x = false ↔ ¬ (1 ≤ x ∧ x < 257) := by unfold secB; simp
theorem inB_iff {x : Int} : inB x = true ↔ 1 ≤ x ∧ x < 1543 := by unfold inB; simp
theorem inB_not {x : Int} : inB x = false ↔ ¬ (1 ≤ x ∧ x < 1543) := by unfold inB; simp
theorem ansB_iff {x : Int} : ansB x = true ↔ 0 ≤ x ∧ x < 257 := by unfold ansB; simp
theorem ansB_not {x : Int} : ansB x = false ↔ ¬ (0 ≤ x ∧ x < 257) := by unfold ansB; simp
theorem inB_isM {x : Int} (h : inB x = true) : isM x = true := isM_iff.2 (by have := inB_iff.1 h; omega)

/-- A power, of whole numbers. -/
def pwZ (a n : Int) : Int := ((pw a.toNat n.toNat : Nat) : Int)
theorem pwZ_nat (a n : Nat) : pwZ a n = (pw a n : Nat) := rfl
theorem pwZ_lo (a n : Int) : 0 ≤ pwZ a n := Int.natCast_nonneg _
theorem pwZ_hi (a n : Int) : pwZ a n < 1543 := by
  have := pw_lt a.toNat n.toNat
  unfold pwZ
  omega
theorem pwZ_in (n : Int) : inB (pwZ 64 n) = true := by
  rw [inB_iff]
  have h1 := pw_pos n.toNat
  have h2 := pw_lt 64 n.toNat
  unfold pwZ
  have e : (64 : Int).toNat = 64 := rfl
  rw [e]
  omega

/-- The challenge of a point, a key and a measure; what is wrong with it. -/
def chV (p q m : Int) : Int := allV [p, q, m] % 257
theorem chV_lo (p q m : Int) : 0 ≤ chV p q m := by unfold chV; omega
theorem chV_hi (p q m : Int) : chV p q m < 257 := by unfold chV; omega
theorem ok_three {p q m : Int} (hp : isM p = true) (hq : isM q = true) : okAll [p, q, m] = isM m := by simp [okAll, hp, hq]
theorem allC_three {p q m : Int} (hp : isM p = true) (hq : isM q = true) : allC [p, q, m] = if isM m = true then 0 else 1 := by
  unfold allC
  rw [if_neg (by simp), ok_three hp hq]
theorem allV_three {p q m : Int} (hp : isM p = true) (hq : isM q = true) (hm : isM m = true) : allV [p, q, m] = allFrom 0 [p, q, m] := by
  unfold allV
  rw [if_neg (by simp), ok_three hp hq, if_pos hm]
theorem chV_ok {p q m : Int} (hp : isM p = true) (hq : isM q = true) (hm : isM m = true) : chV p q m = allFrom 0 [p, q, m] % 257 := by
  unfold chV
  rw [allV_three hp hq hm]

/-- A public key; what is wrong. -/
def pubC (x : Int) : Int := if secB x = true then 0 else 1
def pubV (x : Int) : Int := if secB x = true then pwZ 64 x else 0
theorem pubC_ok {x : Int} (h : secB x = true) : pubC x = 0 := if_pos h
theorem pubV_ok {x : Int} (h : secB x = true) : pubV x = pwZ 64 x := if_pos h
theorem pubC_no {x : Int} (h : secB x = false) : pubC x = 1 := by unfold pubC; rw [h]; rfl
theorem pubV_no {x : Int} (h : secB x = false) : pubV x = 0 := by unfold pubV; rw [h]; rfl

/-- A seal: its challenge, what is wrong, its point, its answer. -/
def sigH (x k m : Int) : Int := chV (pwZ 64 k) (pwZ 64 x) m
def sigC (x k m : Int) : Int := if secB x = true ∧ secB k = true ∧ isM m = true then 0 else 1
def sigP (x k m : Int) : Int := if secB x = true ∧ secB k = true ∧ isM m = true then pwZ 64 k else 0
def sigA (x k m : Int) : Int := if secB x = true ∧ secB k = true ∧ isM m = true then (k + sigH x k m * x) % 257 else 0
theorem sigC_ok {x k m : Int} (hx : secB x = true) (hk : secB k = true) (hm : isM m = true) : sigC x k m = 0 := if_pos ⟨hx, hk, hm⟩
theorem sigP_ok {x k m : Int} (hx : secB x = true) (hk : secB k = true) (hm : isM m = true) : sigP x k m = pwZ 64 k := if_pos ⟨hx, hk, hm⟩
theorem sigA_ok {x k m : Int} (hx : secB x = true) (hk : secB k = true) (hm : isM m = true) : sigA x k m = (k + sigH x k m * x) % 257 := if_pos ⟨hx, hk, hm⟩
theorem sig_no {x k m : Int} (h : secB x = false ∨ secB k = false ∨ isM m = false) : sigC x k m = 1 ∧ sigP x k m = 0 ∧ sigA x k m = 0 := by
  have hn : ¬ (secB x = true ∧ secB k = true ∧ isM m = true) := by
    rintro ⟨a, b, c⟩
    rw [a, b, c] at h
    simp at h
  unfold sigC sigP sigA
  rw [if_neg hn, if_neg hn, if_neg hn]
  exact ⟨rfl, rfl, rfl⟩
theorem sigC_zero {x k m : Int} (h : sigC x k m = 0) : secB x = true ∧ secB k = true ∧ isM m = true := by
  unfold sigC at h
  split at h
  · assumption
  · cases h

/-- Is a seal right: its form, and what it says. -/
def formB (q m p a : Int) : Bool := inB q && inB p && isM m && ansB a
def saysB (q m p a : Int) : Bool := decide (pwZ 64 a = p * pwZ q (chV p q m) % 1543)
def rigC (q m p a : Int) : Int := if formB q m p a = true then (if saysB q m p a = true then 0 else 8) else 1
def chkC (q m p a : Int) : Int := if formB q m p a = true then 0 else 1
def chkB (q m p a : Int) : Bool := formB q m p a && saysB q m p a
theorem formB_iff {q m p a : Int} : formB q m p a = true ↔ inB q = true ∧ inB p = true ∧ isM m = true ∧ ansB a = true := by
  unfold formB
  simp [Bool.and_eq_true, and_assoc]
theorem form_no {q m p a : Int} (h : inB q = false ∨ inB p = false ∨ isM m = false ∨ ansB a = false) : formB q m p a = false := by
  unfold formB
  rcases h with h | h | h | h <;> rw [h] <;> simp
theorem rigC_no {q m p a : Int} (h : formB q m p a = false) : rigC q m p a = 1 := by unfold rigC; rw [h]; rfl
theorem chkC_no {q m p a : Int} (h : formB q m p a = false) : chkC q m p a = 1 := by unfold chkC; rw [h]; rfl
theorem chkB_no {q m p a : Int} (h : formB q m p a = false) : chkB q m p a = false := by unfold chkB; rw [h]; rfl
theorem chkC_ok {q m p a : Int} (h : formB q m p a = true) : chkC q m p a = 0 := by unfold chkC; rw [h]; rfl
theorem chkB_ok {q m p a : Int} (h : formB q m p a = true) : chkB q m p a = saysB q m p a := by unfold chkB; rw [h]; rfl
theorem rigC_yes {q m p a : Int} (h : formB q m p a = true) (hs : saysB q m p a = true) : rigC q m p a = 0 := by unfold rigC; rw [h, hs]; rfl
theorem rigC_else {q m p a : Int} (h : formB q m p a = true) (hs : saysB q m p a = false) : rigC q m p a = 8 := by unfold rigC; rw [h, hs]; rfl
theorem rig_chk (q m p a : Int) : (rigC q m p a = 0 ∧ chkC q m p a = 0 ∧ chkB q m p a = true) ∨ (rigC q m p a = 8 ∧ chkC q m p a = 0 ∧ chkB q m p a = false) ∨ (rigC q m p a = 1 ∧ chkC q m p a = 1 ∧ chkB q m p a = false) := by
  cases h : formB q m p a with
  | false => exact Or.inr (Or.inr ⟨rigC_no h, chkC_no h, chkB_no h⟩)
  | true =>
    cases hs : saysB q m p a with
    | true => exact Or.inl ⟨rigC_yes h hs, chkC_ok h, by rw [chkB_ok h, hs]⟩
    | false => exact Or.inr (Or.inl ⟨rigC_else h hs, chkC_ok h, by rw [chkB_ok h, hs]⟩)

/-- A seal is right by its key, and with no other answer. -/
theorem says_own {x k m other : Int} (hx : secB x = true) (hk : secB k = true) (hm : isM m = true) (ho : ansB other = true) : saysB (pwZ 64 x) m (pwZ 64 k) other = decide (other = sigA x k m) := by
  have x1 := secB_iff.1 hx
  have k1 := secB_iff.1 hk
  have o1 := ansB_iff.1 ho
  have c0 := chV_lo (pwZ 64 k) (pwZ 64 x) m
  unfold saysB
  rw [sigA_ok hx hk hm]
  unfold sigH
  generalize chV (pwZ 64 k) (pwZ 64 x) m = c at *
  obtain ⟨x, rfl⟩ : ∃ n : Nat, x = n := ⟨x.toNat, by omega⟩
  obtain ⟨k, rfl⟩ : ∃ n : Nat, k = n := ⟨k.toNat, by omega⟩
  obtain ⟨o, rfl⟩ : ∃ n : Nat, other = n := ⟨other.toNat, by omega⟩
  obtain ⟨c, rfl⟩ : ∃ n : Nat, c = n := ⟨c.toNat, by omega⟩
  have h := @seal_other k c x o (by omega)
  have e1 : pwZ 64 (o : Int) = (pw 64 o : Nat) := rfl
  have e2 : pwZ 64 (k : Int) = (pw 64 k : Nat) := rfl
  have e3 : pwZ (pwZ 64 (x : Int)) (c : Int) = (pw (pw 64 x) c : Nat) := rfl
  rw [e1, e2, e3]
  apply decide_eq_decide.2
  generalize pw 64 o = A at h ⊢
  generalize pw 64 k = B at h ⊢
  generalize pw (pw 64 x) c = C at h ⊢
  rw [← Int.natCast_mul, ← Int.natCast_mul]
  generalize B * C = D at h ⊢
  generalize c * x = E at h ⊢
  constructor
  · intro e
    have := h.1 (by omega)
    omega
  · intro e
    have := h.2 (by omega)
    omega
theorem sigA_ans {x k m : Int} : ansB (sigA x k m) = true := by
  rw [ansB_iff]
  unfold sigA
  split <;> omega
/-- Two seals by one number tell the secret. -/
theorem two_tell {x k m n : Int} (hx : secB x = true) (hk : secB k = true) (hm : isM m = true) (hn : isM n = true) :
    Int.tmod ((sigH x k m - sigH x k n + 257) * x - (sigA x k m - sigA x k n + 257)) 257 = 0 := by
  have x1 := secB_iff.1 hx
  have k1 := secB_iff.1 hk
  have c0 := chV_lo (pwZ 64 k) (pwZ 64 x) m
  have d0 := chV_lo (pwZ 64 k) (pwZ 64 x) n
  rw [sigA_ok hx hk hm, sigA_ok hx hk hn]
  unfold sigH
  generalize chV (pwZ 64 k) (pwZ 64 x) m = c at *
  generalize chV (pwZ 64 k) (pwZ 64 x) n = d at *
  obtain ⟨x, rfl⟩ : ∃ n : Nat, x = n := ⟨x.toNat, by omega⟩
  obtain ⟨k, rfl⟩ : ∃ n : Nat, k = n := ⟨k.toNat, by omega⟩
  obtain ⟨c, rfl⟩ : ∃ n : Nat, c = n := ⟨c.toNat, by omega⟩
  obtain ⟨d, rfl⟩ : ∃ n : Nat, d = n := ⟨d.toNat, by omega⟩
  exact seal_two_tmod k c d x
/-- All secrets are unlike, and so are their keys. -/
theorem keys_unlike {x y : Int} (hx : secB x = true) (hy : secB y = true) : (pwZ 64 x == pwZ 64 y) = (x == y) ∧ pwZ 64 x ≠ 1 := by
  have x1 := secB_iff.1 hx
  have y1 := secB_iff.1 hy
  obtain ⟨x, rfl⟩ : ∃ n : Nat, x = n := ⟨x.toNat, by omega⟩
  obtain ⟨y, rfl⟩ : ∃ n : Nat, y = n := ⟨y.toNat, by omega⟩
  have h := @pw_iff x y (by omega) (by omega)
  have g := @pw_ne_one x (by omega) (by omega)
  have e1 : pwZ 64 (x : Int) = (pw 64 x : Nat) := rfl
  have e2 : pwZ 64 (y : Int) = (pw 64 y : Nat) := rfl
  rw [e1, e2]
  generalize pw 64 x = A at h g ⊢
  generalize pw 64 y = B at h ⊢
  constructor
  · rw [Bool.eq_iff_iff, beq_iff_eq, beq_iff_eq]
    constructor
    · intro e
      have := h.1 (by omega)
      omega
    · intro e
      have := h.2 (by omega)
      omega
  · intro e
    exact g (by omega)
end Go.Proofs.YtjkcplpmhjnahaaGreatDoor.M
namespace Go.Proofs.YtjkcplpmhjnahaaGreatDoor.Key
open Go.ChangeShapes Go.WideShapes Go.ChangeAt Go.RowKit
open Go.Proofs.YtjkcplpmhjnahaaGreatDoor.M
set_option linter.unusedVariables false

theorem ret_one {k : IntKind} {a b : Int} (h : a = b) : Ending.returned (.int k a) = .returned (.int k b) := by rw [h]

theorem ret_true {b : Bool} (h : b = true) : Ending.returned (.bool b) = .returned (.bool true) := by rw [h]

theorem secret_any (n : Int) (w : World) :
    Calls Tryz.prog 92 #[.int .i64 n] w fun e w' => e = .returned (.bool (secB n)) ∧ w' = w := by
  by_cases h0 : 1 ≤ n
  · by_cases h1 : n < 257
    · rw [secB_iff.2 ⟨h0, h1⟩]
      go_enter Tryz.func92, Tryz.ntmps92
      go_wp2
      go_ret
      exact ⟨rfl, rfl⟩
    · rw [secB_not.2 (by omega)]
      go_enter Tryz.func92, Tryz.ntmps92
      go_wp2
      go_ret
      exact ⟨rfl, rfl⟩
  · rw [secB_not.2 (by omega)]
    go_enter Tryz.func92, Tryz.ntmps92
    go_wp2
    go_ret
    exact ⟨rfl, rfl⟩

theorem public_is (n : Int) (w : World) :
    Calls Tryz.prog 95 #[.int .i64 n] w fun e w' => e = .returned (.bool (inB n)) ∧ w' = w := by
  by_cases h0 : 1 ≤ n
  · by_cases h1 : n < 1543
    · rw [inB_iff.2 ⟨h0, h1⟩]
      go_enter Tryz.func95, Tryz.ntmps95
      go_wp2
      go_ret
      exact ⟨rfl, rfl⟩
    · rw [inB_not.2 (by omega)]
      go_enter Tryz.func95, Tryz.ntmps95
      go_wp2
      go_ret
      exact ⟨rfl, rfl⟩
  · rw [inB_not.2 (by omega)]
    go_enter Tryz.func95, Tryz.ntmps95
    go_wp2
    go_ret
    exact ⟨rfl, rfl⟩

set_option maxHeartbeats 400000 in
theorem power_nat (a n : Nat) (w : World) (ha : a < 1543) (hn : n < 1000) :
    Calls Tryz.prog 93 #[.int .i64 a, .int .i64 n] w fun e w' => e = .returned (.int .i64 (pw a n : Nat)) ∧ w' = w := by
  go_enter Tryz.func93, Tryz.ntmps93
  go_wp2
  go_loop [5, 7] (fun p i => ∃ k : Nat, k ≤ n ∧ i = .int .i64 k ∧ p = .int .i64 (pw a k : Nat)) (fun _ i => n - (intOf i).toNat)
  case atStart => exact ⟨0, by omega, rfl, by rw [pw_zero]; rfl⟩
  case round =>
    obtain ⟨k, hk, rfl, rfl⟩ := hrel
    by_cases hlt : k < n
    · have hlz : (k : Int) < n := by omega
      have E := hide (pw_succ a k)
      have hq := pw_lt a k
      generalize hqe : pw a k = q at *
      have hm0 : 0 ≤ (q : Int) * a := Int.mul_nonneg (by omega) (by omega)
      have hm1 : (q : Int) * a ≤ 1543 * 1543 := Int.mul_le_mul (by omega) (by omega) (by omega) (by omega)
      go_wp2
      go_round
      case rel => exact ⟨k + 1, by omega, by go_num, by rw [E.out]; simp [Int.natCast_mul]⟩
      case measure => simp [intOf]; omega
    · have hkn : k = n := by omega
      have hlz : ¬ (k : Int) < n := by omega
      go_wp2
      go_ret
      exact ⟨rfl, rfl⟩
theorem power_any (a n : Int) (w : World) (ha0 : 0 ≤ a) (ha : a < 1543) (hn0 : 0 ≤ n) (hn : n < 1000) :
    Calls Tryz.prog 93 #[.int .i64 a, .int .i64 n] w fun e w' => e = .returned (.int .i64 (pwZ a n)) ∧ w' = w := by
  obtain ⟨a, rfl⟩ : ∃ k : Nat, a = k := ⟨a.toNat, by omega⟩
  obtain ⟨n, rfl⟩ : ∃ k : Nat, n = k := ⟨n.toNat, by omega⟩
  exact power_nat a n w (by omega) (by omega)

theorem public_ok (x : Int) (w : World) (h : secB x = true) :
    Calls Tryz.prog 64 #[.int .i64 x] w fun e w' => e = .returned (.tuple #[.int .i64 (pwZ 64 x), .nilIface]) ∧ w' = w := by
  have hr := secB_iff.1 h
  obtain ⟨h0, h1⟩ := hr
  go_enter Tryz.func64, Tryz.ntmps64
  go_wp2_with (first | (go_at_call 92; refine (secret_any _ _).mono ?_; rintro e w' ⟨rfl, rfl⟩) | (go_at_call 93; refine (power_any _ _ _ (by omega) (by omega) (by omega) (by omega)).mono ?_; rintro e w' ⟨rfl, rfl⟩))
  go_ret2
  exact ⟨rfl, rfl⟩
theorem public_no (x : Int) (w : World) (h : secB x = false) :
    Calls Tryz.prog 64 #[.int .i64 x] w fun e w' => e = .returned (.tuple #[.int .i64 0, .iface 98 (.int .i64 1)]) ∧ w' = w := by
  go_enter Tryz.func64, Tryz.ntmps64
  go_wp2_with (go_at_call 92; refine (secret_any _ _).mono ?_; rintro e w' ⟨rfl, rfl⟩)
  go_ret2
  exact ⟨rfl, rfl⟩
theorem public_any (x : Int) (w : World) :
    Calls Tryz.prog 64 #[.int .i64 x] w fun e w' => e = .returned (.tuple #[.int .i64 (pubV x), errV 98 (pubC x)]) ∧ w' = w := by
  cases h : secB x with
  | true => rw [pubV_ok h, pubC_ok h]; exact public_ok x w h
  | false => rw [pubV_no h, pubC_no h]; exact public_no x w h
end Go.Proofs.YtjkcplpmhjnahaaGreatDoor.Key
namespace Go.Proofs.YtjkcplpmhjnahaaGreatDoor.Key
open Go.ChangeShapes Go.WideShapes Go.ChangeAt Go.RowKit
open Go.Proofs.YtjkcplpmhjnahaaGreatDoor.M Go.Proofs.YtjkcplpmhjnahaaGreatDoor.Measure
set_option linter.unusedVariables false

set_option maxHeartbeats 1000000 in
theorem challenge_ok (p q m : Int) (w : World) (hp : isM p = true) (hq : isM q = true) (hm : isM m = true) :
    Calls Tryz.prog 94 #[.int .i64 p, .int .i64 q, .int .i64 m] w fun e w' => e = .returned (.tuple #[.int .i64 (chV p q m), .nilIface]) ∧ Below w.heap.size w w' := by
  have HO := hide (show okAll [p, q, m] = true by rw [ok_three hp hq, hm])
  have HC := hide (chV_ok hp hq hm)
  have hr := allFrom_range 0 [p, q, m] (by omega) (by omega)
  clear hp hq hm
  obtain ⟨r0, r1⟩ := hr
  go_enter Tryz.func94, Tryz.ntmps94
  go_wp2_with (fail)
  refine (all_ok _ [p, q, m] 3 _ _ rfl (by omega) (Row.three (blk_new _ _)) HO.out).mono ?_
  rintro e w1 ⟨rfl, rfl⟩
  generalize allFrom 0 [p, q, m] = r at *
  go_wp2
  go_ret2
  exact ⟨by rw [HC.out]; rfl, below_new _ _⟩

set_option maxHeartbeats 1000000 in
theorem challenge_no (p q m : Int) (w : World) (hp : isM p = true) (hq : isM q = true) (hm : isM m = false) :
    Calls Tryz.prog 94 #[.int .i64 p, .int .i64 q, .int .i64 m] w fun e w' => e = .returned (.tuple #[.int .i64 0, .iface 98 (.int .i64 1)]) ∧ Below w.heap.size w w' := by
  have HO := hide (show okAll [p, q, m] = false by rw [ok_three hp hq, hm])
  clear hp hq hm
  go_enter Tryz.func94, Tryz.ntmps94
  go_wp2_with (fail)
  refine (all_bad _ [p, q, m] 3 _ _ rfl (by omega) (Row.three (blk_new _ _)) HO.out).mono ?_
  rintro e w1 ⟨rfl, rfl⟩
  go_wp2
  go_ret2
  exact ⟨rfl, below_new _ _⟩

theorem info_seal : (Tryz.prog.info? 64).map (·.size) = some 2 := by kernel_rfl
/-- A seal out of its block. -/
theorem load_seal {w : World} {b : Nat} {c : Array Value} {fr : Nat × Nat} (h : w.heap[b]? = some (.cells c 64 fr)) (hs : c.size = 2) : (loadVar 64 ⟨b, 0, none⟩).run Tryz.prog w = .ok (.agg c) w :=
  run_loadVar_row w b _ _ c fr _ h Tryz.underlying64 rfl (by rw [info_seal, hs])
theorem results_seal {fn : Func} {p u : Tmp} (h : fn.results = #[.cell p 64, .tmp u]) (tmps : Array Value) (w : World) (b : Nat) (c : Array Value) (v : Value) (hp : tmps.getD p undef = .pointer (some ⟨b, 0, none⟩)) (hu : tmps.getD u undef = v)
    (hg : w.heap[b]? = some (.cells c 64)) (hs : c.size = 2) : (results fn tmps).run Tryz.prog w = .ok (.tuple #[.agg c, v]) w := by
  rw [results_cell_tmp h, hp, hu]
  simp [asAddr, load_seal hg hs, Result.andThen]

set_option maxHeartbeats 2000000 in
theorem sign_any (x k m : Int) (w : World) :
    Calls Tryz.prog 66 #[.int .i64 x, .int .i64 k, .int .i64 m] w fun e w' => e = .returned (.tuple #[.agg (sealC (sigP x k m) (sigA x k m)), errV 98 (sigC x k m)]) ∧ Below w.heap.size w w' := by
  have HB0 := hide (below_new w (.cells #[.int .i64 0, .int .i64 0] 64))
  have HG0 := hide (blk_new w (.cells #[.int .i64 0, .int .i64 0] 64))
  obtain ⟨r0, r1⟩ := seal_cells HG0.out
  obtain ⟨g0, g1⟩ := seal_free HG0.out
  cases hx : secB x with
  | false =>
    obtain ⟨e1, e2, e3⟩ := sig_no (k := k) (m := m) (Or.inl hx)
    rw [e1, e2, e3]
    clear e1 e2 e3
    go_enter Tryz.func66, Tryz.ntmps66
    go_wp2_with (go_at_call 64; refine (public_no _ _ (by assumption)).mono ?_; rintro e w' ⟨rfl, rfl⟩)
    refine bodyPost_ret (v := .tuple #[.agg (sealC 0 0), .iface 98 (.int .i64 1)]) ?_ rfl ⟨?_, ?_⟩
    · exact results_seal (p := 6) (u := 7) rfl _ _ w.heap.size _ _ rfl rfl HG0.out rfl
    · rfl
    · exact HB0.out
  | true =>
    cases hk : secB k with
    | false =>
      obtain ⟨e1, e2, e3⟩ := sig_no (x := x) (m := m) (Or.inr (Or.inl hk))
      rw [e1, e2, e3]
      clear e1 e2 e3
      go_enter Tryz.func66, Tryz.ntmps66
      go_wp2_with (go_at_call 64; (first | refine (public_no _ _ (by assumption)).mono ?_ | refine (public_ok _ _ (by assumption)).mono ?_); rintro e w' ⟨rfl, rfl⟩)
      refine bodyPost_ret (v := .tuple #[.agg (sealC 0 0), .iface 98 (.int .i64 1)]) ?_ rfl ⟨?_, ?_⟩
      · exact results_seal (p := 6) (u := 7) rfl _ _ w.heap.size _ _ rfl rfl HG0.out rfl
      · rfl
      · exact HB0.out
    | true =>
      have PX := hide (fun W => public_ok x W hx)
      have PK := hide (fun W => public_ok k W hk)
      have MX := hide (inB_isM (pwZ_in x))
      have MK := hide (inB_isM (pwZ_in k))
      cases hm : isM m with
      | false =>
        obtain ⟨e1, e2, e3⟩ := sig_no (x := x) (k := k) (Or.inr (Or.inr hm))
        rw [e1, e2, e3]
        have HM := hide hm
        clear e1 e2 e3 hx hk hm
        generalize pwZ 64 x = q at *
        generalize pwZ 64 k = p at *
        go_enter Tryz.func66, Tryz.ntmps66
        go_wp2_with (fail)
        refine (PX.out _).mono ?_
        rintro e w1 ⟨rfl, rfl⟩
        go_wp2_with (fail)
        refine (PK.out _).mono ?_
        rintro e w1 ⟨rfl, rfl⟩
        go_wp2_with (fail)
        refine (challenge_no p q m _ MK.out MX.out HM.out).mono ?_
        rintro e w1 ⟨rfl, hb1⟩
        have HB1 := hide (below_on HB0.out hb1)
        have HG1 := hide (blk_below HG0.out hb1)
        clear hb1 HB0 HG0 r0 r1 g0 g1
        obtain ⟨r0, r1⟩ := seal_cells HG1.out
        obtain ⟨g0, g1⟩ := seal_free HG1.out
        go_wp2
        rw [two_set HG1.out]
        refine bodyPost_ret (v := .tuple #[.agg (sealC 0 0), .iface 98 (.int .i64 1)]) ?_ rfl ⟨?_, ?_⟩
        · exact results_seal (p := 6) (u := 7) rfl _ _ w.heap.size _ _ rfl rfl (setRow_heap _ _ _ _ _ _ HG1.out) rfl
        · rfl
        · exact below_setRow HB1.out (by omega) _
      | true =>
        rw [sigC_ok hx hk hm, sigP_ok hx hk hm, sigA_ok hx hk hm]
        unfold sigH
        have HM := hide hm
        have xr := secB_iff.1 hx
        have kr := secB_iff.1 hk
        obtain ⟨x0, x1⟩ := xr
        obtain ⟨k0, k1⟩ := kr
        clear hx hk hm
        generalize pwZ 64 x = q at *
        generalize pwZ 64 k = p at *
        have CH := hide (fun W => challenge_ok p q m W MK.out MX.out HM.out)
        have c0 := chV_lo p q m
        have c1 := chV_hi p q m
        generalize chV p q m = c at *
        have hm0 : 0 ≤ c * x := Int.mul_nonneg c0 (by omega)
        have hm1 : c * x ≤ 257 * 257 := Int.mul_le_mul (by omega) (by omega) (by omega) (by omega)
        go_enter Tryz.func66, Tryz.ntmps66
        go_wp2_with (fail)
        refine (PX.out _).mono ?_
        rintro e w1 ⟨rfl, rfl⟩
        go_wp2_with (fail)
        refine (PK.out _).mono ?_
        rintro e w1 ⟨rfl, rfl⟩
        go_wp2_with (fail)
        refine (CH.out _).mono ?_
        rintro e w1 ⟨rfl, hb1⟩
        have HB1 := hide (below_on HB0.out hb1)
        have HG1 := hide (blk_below HG0.out hb1)
        clear hb1 HB0 HG0 r0 r1 g0 g1
        obtain ⟨r0, r1⟩ := seal_cells HG1.out
        obtain ⟨g0, g1⟩ := seal_free HG1.out
        go_wp2
        rw [two_set HG1.out]
        refine bodyPost_ret (v := .tuple #[.agg (sealC p ((k + c * x) % 257)), .nilIface]) ?_ rfl ⟨?_, ?_⟩
        · exact results_seal (p := 6) (u := 7) rfl _ _ w.heap.size _ _ rfl rfl (setRow_heap _ _ _ _ _ _ HG1.out) rfl
        · rfl
        · exact below_setRow HB1.out (by omega) _
end Go.Proofs.YtjkcplpmhjnahaaGreatDoor.Key
namespace Go.Proofs.YtjkcplpmhjnahaaGreatDoor.Key
open Go.ChangeShapes Go.WideShapes Go.ChangeAt Go.RowKit
open Go.Proofs.YtjkcplpmhjnahaaGreatDoor.M Go.Proofs.YtjkcplpmhjnahaaGreatDoor.Measure
set_option linter.unusedVariables false

theorem below_quiet {B : Nat} {a w : World} (h : Below B a w) : ∀ n, Below B a (w.drewN n)
  | 0 => h
  | n + 1 => Below.drew (below_quiet h n)

set_option maxHeartbeats 2000000 in
theorem check_form (q m p a : Int) (w : World) (h : inB q = false ∨ inB p = false ∨ ansB a = false) :
    Calls Tryz.prog 67 #[.int .i64 q, .int .i64 m, .agg (sealC p a)] w fun e w' => e = .returned (.tuple #[.bool false, .iface 98 (.int .i64 1)]) ∧ Below w.heap.size w w' := by
  have HB := hide (below_new w (.cells (sealC p a) 64))
  unfold sealC at HB ⊢
  have HF := hide h
  clear h
  cases hq : inB q with
  | false =>
    go_enter Tryz.func67, Tryz.ntmps67
    go_wp2_with (go_at_call 95; refine (public_is _ _).mono ?_; rintro e w' ⟨rfl, rfl⟩)
    go_ret2
    exact ⟨rfl, HB.out⟩
  | true =>
    cases hp : inB p with
    | false =>
      go_enter Tryz.func67, Tryz.ntmps67
      go_wp2_with (go_at_call 95; refine (public_is _ _).mono ?_; rintro e w' ⟨rfl, rfl⟩)
      go_ret2
      exact ⟨rfl, HB.out⟩
    | true =>
      by_cases h0 : a < 0
      · go_enter Tryz.func67, Tryz.ntmps67
        go_wp2_with (go_at_call 95; refine (public_is _ _).mono ?_; rintro e w' ⟨rfl, rfl⟩)
        go_ret2
        exact ⟨rfl, HB.out⟩
      · have h1 : 257 ≤ a := by
          have := HF.out
          rw [hq, hp, ansB_not] at this
          simp at this
          omega
        go_enter Tryz.func67, Tryz.ntmps67
        go_wp2_with (go_at_call 95; refine (public_is _ _).mono ?_; rintro e w' ⟨rfl, rfl⟩)
        go_ret2
        exact ⟨rfl, HB.out⟩

set_option maxHeartbeats 2000000 in
theorem check_meas (q m p a : Int) (w : World) (hq : inB q = true) (hp : inB p = true) (ha : ansB a = true) (hm : isM m = false) :
    Calls Tryz.prog 67 #[.int .i64 q, .int .i64 m, .agg (sealC p a)] w fun e w' => e = .returned (.tuple #[.bool false, .iface 98 (.int .i64 1)]) ∧ Below w.heap.size w w' := by
  have HB := hide (below_new w (.cells (sealC p a) 64))
  unfold sealC at HB ⊢
  have ar := ansB_iff.1 ha
  obtain ⟨a0, a1⟩ := ar
  have CH := hide (fun W => challenge_no p q m W (inB_isM hp) (inB_isM hq) hm)
  clear ha hm
  go_enter Tryz.func67, Tryz.ntmps67
  go_wp2_with (go_at_call 95; refine (public_is _ _).mono ?_; rintro e w' ⟨rfl, rfl⟩)
  refine (CH.out _).mono ?_
  rintro e w1 ⟨rfl, hb1⟩
  have HB1 := hide (below_on HB.out hb1)
  clear hb1 HB
  go_wp2
  go_ret2
  exact ⟨rfl, HB1.out⟩

set_option maxHeartbeats 400000 in
theorem check_ok (q m p a : Int) (w : World) (hq : inB q = true) (hp : inB p = true) (ha : ansB a = true) (hm : isM m = true) :
    Calls Tryz.prog 67 #[.int .i64 q, .int .i64 m, .agg (sealC p a)] w fun e w' => e = .returned (.tuple #[.bool (saysB q m p a), .nilIface]) ∧ Below w.heap.size w w' := by
  have HB := hide (below_new w (.cells (sealC p a) 64))
  have HG := hide (blk_new w (.cells (sealC p a) 64))
  unfold sealC at HB HG ⊢
  have ar := ansB_iff.1 ha
  obtain ⟨a0, a1⟩ := ar
  have qr := inB_iff.1 hq
  obtain ⟨q0, q1⟩ := qr
  have pr := inB_iff.1 hp
  obtain ⟨p0, p1⟩ := pr
  have CH := hide (fun W => challenge_ok p q m W (inB_isM hp) (inB_isM hq) hm)
  clear ha hm
  unfold saysB
  have c0 := chV_lo p q m
  have c1 := chV_hi p q m
  generalize chV p q m = c at *
  have PA := hide (fun W => power_any 64 a W (by omega) (by omega) a0 (by omega))
  have PC := hide (fun W => power_any q c W (by omega) (by omega) c0 (by omega))
  have u0 := pwZ_lo 64 a
  have u1 := pwZ_hi 64 a
  have v0 := pwZ_lo q c
  have v1 := pwZ_hi q c
  generalize pwZ 64 a = u at *
  generalize pwZ q c = v at *
  have hm0 : 0 ≤ p * v := Int.mul_nonneg (by omega) v0
  have hm1 : p * v ≤ 1543 * 1543 := Int.mul_le_mul (by omega) (by omega) (by omega) (by omega)
  go_enter Tryz.func67, Tryz.ntmps67
  go_wp2_with (go_at_call 95; refine (public_is _ _).mono ?_; rintro e w' ⟨rfl, rfl⟩)
  refine (CH.out _).mono ?_
  rintro e w1 ⟨rfl, hb1⟩
  have HB1 := hide (below_on HB.out hb1)
  have HG1 := hide (blk_below HG.out hb1)
  clear hb1 HB HG
  obtain ⟨r0, r1⟩ := seal_cells HG1.out
  go_wp2_with (fail)
  go_quiet (first | (go_at_call_of 93 (Value.int .i64 a); exact Calls.quiet_of_same (PA.out _)) | (go_at_call_of 93 (Value.int .i64 c); exact Calls.quiet_of_same (PC.out _)))
  go_wp2
  go_ret2
  exact ⟨by rfl, below_quiet HB1.out _⟩

theorem check_any (q m p a : Int) (w : World) :
    Calls Tryz.prog 67 #[.int .i64 q, .int .i64 m, .agg (sealC p a)] w fun e w' => e = .returned (.tuple #[.bool (chkB q m p a), errV 98 (chkC q m p a)]) ∧ Below w.heap.size w w' := by
  cases hq : inB q with
  | false =>
    have hf := form_no (m := m) (p := p) (a := a) (Or.inl hq)
    rw [chkB_no hf, chkC_no hf]
    exact check_form q m p a w (Or.inl hq)
  | true =>
    cases hp : inB p with
    | false =>
      have hf := form_no (q := q) (m := m) (a := a) (Or.inr (Or.inl hp))
      rw [chkB_no hf, chkC_no hf]
      exact check_form q m p a w (Or.inr (Or.inl hp))
    | true =>
      cases ha : ansB a with
      | false =>
        have hf := form_no (q := q) (m := m) (p := p) (Or.inr (Or.inr (Or.inr ha)))
        rw [chkB_no hf, chkC_no hf]
        exact check_form q m p a w (Or.inr (Or.inr ha))
      | true =>
        cases hm : isM m with
        | false =>
          have hf := form_no (q := q) (p := p) (a := a) (Or.inr (Or.inr (Or.inl hm)))
          rw [chkB_no hf, chkC_no hf]
          exact check_meas q m p a w hq hp ha hm
        | true =>
          have hf := formB_iff.2 ⟨hq, hp, hm, ha⟩
          rw [chkB_ok hf, chkC_ok hf]
          exact check_ok q m p a w hq hp ha hm

end Go.Proofs.YtjkcplpmhjnahaaGreatDoor.Key
namespace Go.Proofs.YtjkcplpmhjnahaaGreatDoor.M
open Go.RowKit Go.ChangeShapes Go.WideShapes Go.ChangeAt

/-- But for the blocks of S, what was there is as it was. -/
def Only (S : Nat → Prop) (w w' : World) : Prop :=
  w'.os = w.os ∧ w'.tape = w.tape ∧ w'.output = w.output ∧ w.heap.size ≤ w'.heap.size ∧ ∀ k, k < w.heap.size → ¬ S k → w'.heap[k]? = w.heap[k]?
section
variable {S T : Nat → Prop} {w w1 w2 : World}
theorem Only.refl (S : Nat → Prop) (w : World) : Only S w w := ⟨rfl, rfl, rfl, Nat.le_refl _, fun _ _ _ => rfl⟩
theorem Only.trans (h : Only S w w1) (h2 : Only T w1 w2) (hT : ∀ k, k < w.heap.size → T k → S k) : Only S w w2 :=
  ⟨h2.1.trans h.1, h2.2.1.trans h.2.1, h2.2.2.1.trans h.2.2.1, Nat.le_trans h.2.2.2.1 h2.2.2.2.1, fun k hk hn => (h2.2.2.2.2 k (Nat.lt_of_lt_of_le hk h.2.2.2.1) (fun ht => hn (hT k hk ht))).trans (h.2.2.2.2 k hk hn)⟩
theorem Only.of_below (h : Below w.heap.size w w1) : Only S w w1 := ⟨h.os, h.tape, h.output, h.size, fun k hk _ => h.block k hk⟩
theorem Only.below {B : Nat} (h : Only S w w1) (hB : B ≤ w.heap.size) (hS : ∀ k, S k → B ≤ k) : Below B w w1 :=
  ⟨h.1, h.2.1, h.2.2.1, h.2.2.2.1, fun k hk => h.2.2.2.2 k (Nat.lt_of_lt_of_le hk hB) (fun hs => absurd (hS k hs) (Nat.not_le.2 hk))⟩
theorem Only.size (h : Only S w w1) : w.heap.size ≤ w1.heap.size := h.2.2.2.1
theorem Only.heap (h : Only S w w1) {k : Nat} {o : Obj} (hk : w.heap[k]? = some o) (hn : ¬ S k) : w1.heap[k]? = some o := (h.2.2.2.2 k (blk_lt hk) hn).trans hk
theorem Only.alloc (h : Only S w w1) (o : Obj) : Only S w (w1.alloc o) := h.trans (Only.of_below (S := fun _ => False) (below_new w1 o)) (fun _ _ hf => hf.elim)
theorem Only.after (h : Only S w w1) (hb : Below w1.heap.size w1 w2) : Only S w w2 := h.trans (Only.of_below (S := fun _ => False) hb) (fun _ _ hf => hf.elim)
theorem Only.setCell (h : Only S w w1) {p : Addr} (hp : S p.block) (u : Value) : Only S w (w1.setCell p u) :=
  h.trans (T := fun k => k = p.block) ⟨rfl, rfl, rfl, by simp [World.setCell], fun k _ hn => Below.heap_setCell _ _ _ _ hn⟩ (fun k _ e => by rw [e]; exact hp)
theorem Only.setRow (h : Only S w w1) {b : Nat} (hp : S b) (cs : Array Value) : Only S w (w1.setRow b cs) :=
  h.trans (T := fun k => k = b) ⟨rfl, rfl, rfl, by simp [World.setRow], fun k _ hn => setRow_other _ _ _ _ hn⟩ (fun k _ e => by rw [e]; exact hp)
theorem Only.drew (h : Only S w w1) : Only S w w1.drew := h
theorem Only.grown (h : Only S w w1) {row : Option Nat} (hg : w1.grownBy w2 row) (hr : ∀ k, row = some k → S k ∨ w.heap.size ≤ k) : Only S w w2 :=
  h.trans (T := fun k => row = some k) ⟨hg.os, hg.tape, hg.output, hg.size, fun k hk hn => hg.block k hk (fun e => hn e.symm)⟩ (fun k hk e => by
    rcases hr k e with h | h
    · exact h
    · omega)
end
theorem Own.only {S : Nat → Prop} {w w1 : World} {base : Nat} {e : TypeId} {v : Value} {xs : List Int} (h : Own w base e v xs) (ho : Only S w w1) (hn : ∀ k, v.ownBlock = some k → ¬ S k) : Own w1 base e v xs := by
  refine ⟨h.1, ?_⟩
  rcases h.2 with h2 | ⟨g, cap, cur, h1, h2, h3, h4⟩
  · exact Or.inl h2
  · exact Or.inr ⟨g, cap, cur, h1, h2, ho.heap h3 (hn g (by rw [h1]; rfl)), h4⟩
theorem Own.lt {w : World} {base : Nat} {e : TypeId} {v : Value} {xs : List Int} (h : Own w base e v xs) : ∀ k, v.ownBlock = some k → k < w.heap.size := by
  intro k hk
  rcases h.2 with ⟨h2, _⟩ | ⟨g, cap, cur, h1, _, h3, _⟩
  · rw [h2] at hk; cases hk
  · rw [h1] at hk
    cases hk
    exact blk_lt h3

/-- 'x = append(x, ys...)' where x is a row of ints of the call's own and ys can be read; where the row lies then. -/
theorem wpList_appAt {P : Program} {w : World} {ops : Array Oper} {rest : List Oper} {o : Oper} {a : Act} {Q : Exit → Act → World → Prop} (hgd : o.guard = none) (s x : Operand) (t : TypeId)
    (ho : o.op = .call { callee := .builtin .append, args := #[s, x], argTypes := #[t, t] })
    (base : Nat) (e : TypeId) (hinfo : (P.info? e).map (fun i => (i.zero, i.size, i.bytes)) = some (some (.int .i64 0), 1, 8)) (ht : P.underlying t = some (.slice e))
    (v : Value) (xs : List Int) (hs : a.eval s = v) (hown : Own w base e v xs)
    (ad : Option Addr) (m c : Nat) (ys : List Int) (hx : a.eval x = .slice ad m c) (hm : m = ys.length) (hc : ad = none → c = 0) (hrow : Row w ad ys)
    (hb : xs.length + ys.length ≤ 1000000) (hbase : base ≤ w.heap.size)
    (h : ∀ v' w', Own w' base e v' (xs ++ ys) → w.grownBy w' v.ownBlock → (v'.ownBlock = v.ownBlock ∨ v'.ownBlock = some w.heap.size) → wpList P ops Q rest (a.put o.dst v') w') : wpList P ops Q (o :: rest) a w := by
  obtain ⟨i, hi, hz0, hz1, hz2⟩ := info_parts hinfo
  subst hm
  cases ad with
  | none =>
    have hy : ys = [] := by
      rcases hrow with h | ⟨b, off, h, _⟩
      · exact h
      · cases h
    subst hy
    rw [hc rfl] at hx
    refine wpList_append_own_none hgd s x t ho base e i 1 ht hi v xs.length _ hs hown hx (h v w (by simpa using hown) ⟨rfl, rfl, rfl, Nat.le_refl _, fun _ _ _ => rfl⟩ (Or.inl rfl))
  | some ad =>
    refine wpList_append_own_at w hgd s x t ho base e i (.int .i64 0) 1 8 ht hi hz0 hz1 hz2 rfl (by decide) v xs.length _ hs hown ad ys.length c (ys.map (Value.int .i64)) hx (by simp) ?_ ?_ (by unfold maxLen; omega) (by omega) hbase ?_
    · intro j u hj
      rw [List.getElem?_map] at hj
      obtain ⟨y, hy, rfl⟩ := Option.map_eq_some_iff.1 hj
      rcases hrow with h | ⟨b, off, h, hcell⟩
      · subst h; simp at hy
      · cases h
        rw [add_none]
        exact hcell j y hy
    · intro u hu
      obtain ⟨_, _, rfl⟩ := List.mem_map.1 hu
      rfl
    · intro v' w' h1 h2 _ h3
      refine h v' w' ?_ h2 h3
      have e1 : (xs ++ ys).length = xs.length + ys.length := by simp
      unfold Own
      rw [e1, List.map_append]
      exact h1
end Go.Proofs.YtjkcplpmhjnahaaGreatDoor.M
namespace Go.Proofs.YtjkcplpmhjnahaaGreatDoor.M
set_option linter.unusedVariables false

/-- A name is one to eight letters. -/
def nameB (s : ByteArray) : Bool := letS s && decide (1 ≤ s.size ∧ s.size ≤ 8)
def updF (f : ByteArray → Int) (nm : ByteArray) (v : Int) : ByteArray → Int := fun s => if s = nm then v else f s
/-- One raised: what is wrong, whether it is another one, and what is then. -/
def raiE (f : ByteArray → Int) (k : Nat) (nm : ByteArray) (v : Int) : Int :=
  if nameB nm = true then (if 0 ≤ v ∧ v ≤ 1000 then (if v ≤ f nm then 0 else if f nm = 0 ∧ 12 ≤ k then 4 else 0) else 1) else 3
def raiB (f : ByteArray → Int) (k : Nat) (nm : ByteArray) (v : Int) : Bool := decide (nameB nm = true ∧ (0 ≤ v ∧ v ≤ 1000) ∧ f nm < v ∧ ¬ (f nm = 0 ∧ 12 ≤ k))
def raiF (f : ByteArray → Int) (k : Nat) (nm : ByteArray) (v : Int) : ByteArray → Int := if raiB f k nm v = true then updF f nm v else f
def raiK (f : ByteArray → Int) (k : Nat) (nm : ByteArray) (v : Int) : Nat := if raiB f k nm v = true then (if f nm = 0 then k + 1 else k) else k
def leaE (nm : ByteArray) : Int := if nameB nm = true then 0 else 3
def leaV (f : ByteArray → Int) (nm : ByteArray) : Int := if nameB nm = true then f nm else 0
def mayE (f : ByteArray → Int) (nm : ByteArray) (v : Int) : Int := if nameB nm = true then (if 1 ≤ v ∧ v ≤ 1000 then (if v < f nm then 9 else 0) else 1) else 3
section
variable {f : ByteArray → Int} {k : Nat} {nm : ByteArray} {v : Int}
theorem raiB_iff : raiB f k nm v = true ↔ nameB nm = true ∧ (0 ≤ v ∧ v ≤ 1000) ∧ f nm < v ∧ ¬ (f nm = 0 ∧ 12 ≤ k) := by unfold raiB; rw [decide_eq_true_iff]
theorem raiE_rise (h : raiB f k nm v = true) : raiE f k nm v = 0 := by
  obtain ⟨h1, h2, h3, h4⟩ := raiB_iff.1 h
  unfold raiE
  rw [if_pos h1, if_pos h2, if_neg (by omega), if_neg h4]
theorem raiF_no (h : ¬ raiB f k nm v = true) : raiF f k nm v = f := if_neg h
theorem raiK_no (h : ¬ raiB f k nm v = true) : raiK f k nm v = k := if_neg h
theorem raiF_yes (h : raiB f k nm v = true) : raiF f k nm v = updF f nm v := if_pos h
theorem raiE_name (h : nameB nm = false) : raiE f k nm v = 3 ∧ raiB f k nm v = false := by
  refine ⟨by unfold raiE; rw [h]; rfl, ?_⟩
  cases hb : raiB f k nm v with
  | false => rfl
  | true => rw [(raiB_iff.1 hb).1] at h; cases h
theorem leaE_no (h : nameB nm = false) : leaE nm = 3 ∧ leaV f nm = 0 := by unfold leaE leaV; rw [h]; exact ⟨rfl, rfl⟩
theorem leaE_ok (h : nameB nm = true) : leaE nm = 0 ∧ leaV f nm = f nm := by unfold leaE leaV; rw [if_pos h, if_pos h]; exact ⟨rfl, rfl⟩
theorem updF_same : updF f nm v nm = v := if_pos rfl
/-- The least version never goes back; it is another one just where it is more. -/
theorem rai_least (h : nameB nm = true) : f nm ≤ raiF f k nm v nm ∧ (raiB f k nm v = decide (f nm < raiF f k nm v nm)) ∧ (¬ raiE f k nm v = 0 → raiF f k nm v nm = f nm) := by
  cases hb : raiB f k nm v with
  | true =>
    have h3 := (raiB_iff.1 hb).2.2.1
    rw [raiF_yes hb, updF_same]
    exact ⟨by omega, (decide_eq_true h3).symm, fun hn => absurd (raiE_rise hb) hn⟩
  | false =>
    rw [raiF_no (by rw [hb]; exact Bool.false_ne_true)]
    exact ⟨Int.le_refl _, (decide_eq_false (by omega)).symm, fun _ => rfl⟩
/-- Of one name alone there is always room: it is the greatest that was. -/
theorem rai_one (h : nameB nm = true) (hk : k ≤ 1) (hv : 0 ≤ f nm) : raiF f k nm v nm = if 0 ≤ v ∧ v ≤ 1000 ∧ f nm < v then v else f nm := by
  by_cases hc : 0 ≤ v ∧ v ≤ 1000 ∧ f nm < v
  · rw [if_pos hc, raiF_yes (raiB_iff.2 ⟨h, ⟨hc.1, hc.2.1⟩, hc.2.2, by omega⟩), updF_same]
  · rw [if_neg hc, raiF_no (fun hb => hc (by obtain ⟨_, h2, h3, _⟩ := raiB_iff.1 hb; exact ⟨h2.1, h2.2, h3⟩))]
end

/-- The names that a law lays: an n and a letter. -/
def nmI (i : Nat) : ByteArray := { data := #[110, UInt8.ofNat (97 + i)] }
theorem nmI_name_fin : ∀ i : Fin 20, nameB (nmI i.val) = true := by decide
theorem nmI_inj_fin : ∀ i j : Fin 20, nmI i.val = nmI j.val → i.val = j.val := by decide
theorem nmI_name {i : Nat} (h : i < 20) : nameB (nmI i) = true := nmI_name_fin ⟨i, h⟩
theorem nmI_inj {i j : Nat} (hi : i < 20) (hj : j < 20) (h : nmI i = nmI j) : i = j := nmI_inj_fin ⟨i, hi⟩ ⟨j, hj⟩ h
def inI (n : Nat) (s : ByteArray) : Bool := (List.range n).any fun j => decide (s = nmI j)
theorem inI_iff {n : Nat} {s : ByteArray} : inI n s = true ↔ ∃ j, j < n ∧ s = nmI j := by
  unfold inI
  rw [List.any_eq_true]
  exact ⟨fun ⟨j, hj, e⟩ => ⟨j, List.mem_range.1 hj, of_decide_eq_true e⟩, fun ⟨j, hj, e⟩ => ⟨j, List.mem_range.2 hj, decide_eq_true e⟩⟩
def fI (i : Nat) : ByteArray → Int := fun s => if inI (min i 12) s = true then 1 else 0
theorem fI_zero : fI 0 = fun _ => 0 := by
  funext s
  unfold fI
  rw [if_neg]
  intro h
  obtain ⟨j, hj, _⟩ := inI_iff.1 h
  omega
theorem fI_own {i : Nat} (h : i < 20) : fI i (nmI i) = 0 := by
  unfold fI
  rw [if_neg]
  intro hc
  obtain ⟨j, hj, e⟩ := inI_iff.1 hc
  have := nmI_inj (i := i) (j := j) h (by omega) e
  omega
theorem fI_next {i : Nat} (h : i < 12) : updF (fI i) (nmI i) 1 = fI (i + 1) := by
  funext s
  unfold updF fI
  rw [show min (i + 1) 12 = i + 1 by omega, show min i 12 = i by omega]
  by_cases e : s = nmI i
  · rw [if_pos e, if_pos (inI_iff.2 ⟨i, by omega, e⟩)]
  · rw [if_neg e]
    by_cases hm : inI i s = true
    · obtain ⟨j, hj, e2⟩ := inI_iff.1 hm
      rw [if_pos hm, if_pos (inI_iff.2 ⟨j, by omega, e2⟩)]
    · rw [if_neg hm, if_neg]
      intro hc
      obtain ⟨j, hj, e2⟩ := inI_iff.1 hc
      by_cases hji : j = i
      · rw [hji] at e2; exact e e2
      · exact hm (inI_iff.2 ⟨j, by omega, e2⟩)
theorem fI_full {i : Nat} (h : 12 ≤ i) : fI (i + 1) = fI i := by unfold fI; rw [show min (i + 1) 12 = min i 12 by omega]
theorem fI_zz (i : Nat) : fI i { data := #[122, 122] } = 0 := by
  unfold fI
  rw [if_neg]
  intro hc
  obtain ⟨j, hj, e⟩ := inI_iff.1 hc
  have h1 := congrArg (fun s : ByteArray => s.data.toList[0]?) e
  simp [nmI] at h1
end Go.Proofs.YtjkcplpmhjnahaaGreatDoor.M
namespace Go.Proofs.YtjkcplpmhjnahaaGreatDoor.M
set_option linter.unusedVariables false

/-- A desk: the least versions, and of how many names; a bank. -/
structure Dk where
  f : ByteArray → Int
  k : Nat
  b : List Int
def dk0 : Dk := ⟨fun _ => 0, 0, noBank⟩
def kwExtend : List UInt8 := [101, 120, 116, 101, 110, 100]
def kwDigest : List UInt8 := [100, 105, 103, 101, 115, 116]
def kwMeasure : List UInt8 := [109, 101, 97, 115, 117, 114, 101]
def kwRaise : List UInt8 := [114, 97, 105, 115, 101]
def kwMay : List UInt8 := [109, 97, 121]
def kwPublic : List UInt8 := [112, 117, 98, 108, 105, 99]
def kwSign : List UInt8 := [115, 105, 103, 110]
def kwCheck : List UInt8 := [99, 104, 101, 99, 107]
def ansBad : List UInt8 := [98, 97, 100]
def ansYes : List UInt8 := [121, 101, 115]
def ansNo : List UInt8 := [110, 111]
def ansOk : List UInt8 := [111, 107]
/-- The name of an error. -/
def errN (e : Int) : List UInt8 :=
  if e = 0 then [79, 75] else if e = 1 then [69, 114, 114, 82, 97, 110, 103, 101] else if e = 2 then [69, 114, 114, 83, 121, 110, 116, 97, 120] else if e = 3 then [69, 114, 114, 83, 104, 97, 112, 101] else if e = 4 then [69, 114, 114, 70, 117, 108, 108]
  else if e = 5 then [69, 114, 114, 78, 111, 110, 101] else if e = 6 then [69, 114, 114, 83, 116, 97, 116, 101] else if e = 7 then [69, 114, 114, 67, 108, 97, 115, 104] else if e = 8 then [69, 114, 114, 83, 101, 97, 108] else [69, 114, 114, 79, 108, 100]
def digs (n : Int) : List UInt8 := Lib.decDigits n.toNat
/-- What a word wants: a name or none, and how many numbers. -/
def wantW (w : List UInt8) : Option (Bool × Nat) :=
  if w = kwExtend then some (false, 2) else if w = kwDigest then some (false, 1) else if w = kwPublic then some (false, 1) else if w = kwMeasure then some (true, 0)
  else if w = kwRaise then some (true, 1) else if w = kwMay then some (true, 1) else if w = kwSign then some (false, 3) else if w = kwCheck then some (false, 4) else none
/-- All numbers of some words, if all are. -/
def numsL : List (List UInt8) → Option (List Nat)
  | [] => some []
  | x :: r => match numP x with
    | none => none
    | some n => match numsL r with
      | none => none
      | some l => some (n :: l)
/-- What a word does, with its name and its numbers: the answer, and the desk then. -/
def doL (d : Dk) (w nm : List UInt8) (n : List Nat) : List UInt8 × Dk :=
  if w = kwExtend then
    (if n.getD 0 0 ≤ 7 ∧ isM (n.getD 1 0) = true then (digs (stp 7919 (d.b.getD (n.getD 0 0) 0) (n.getD 1 0)), { d with b := d.b.set (n.getD 0 0) (stp 7919 (d.b.getD (n.getD 0 0) 0) (n.getD 1 0)) }) else (errN 1, d))
  else if w = kwDigest then (if n.getD 0 0 ≤ 255 then (digs (digV d.b (n.getD 0 0)), d) else (errN 1, d))
  else if w = kwPublic then (if secB (n.getD 0 0) = true then (digs (pwZ 64 (n.getD 0 0)), d) else (errN 1, d))
  else if w = kwMeasure then (if 24 < nm.length then (errN 4, d) else (digs (ofFrom 1 nm), d))
  else if w = kwRaise then
    (let e := raiE d.f d.k { data := nm.toArray } (n.getD 0 0)
     if e = 0 then (if raiB d.f d.k { data := nm.toArray } (n.getD 0 0) = true then ansYes else ansNo, { d with f := raiF d.f d.k { data := nm.toArray } (n.getD 0 0), k := raiK d.f d.k { data := nm.toArray } (n.getD 0 0) }) else (errN e, d))
  else if w = kwMay then (let e := mayE d.f { data := nm.toArray } (n.getD 0 0); if e = 0 then (ansOk, d) else (errN e, d))
  else if w = kwSign then
    (let e := sigC (n.getD 0 0) (n.getD 1 0) (n.getD 2 0)
     if e = 0 then (digs (sigP (n.getD 0 0) (n.getD 1 0) (n.getD 2 0)) ++ [32] ++ digs (sigA (n.getD 0 0) (n.getD 1 0) (n.getD 2 0)), d) else (errN e, d))
  else (let e := rigC (n.getD 0 0) (n.getD 1 0) (n.getD 2 0) (n.getD 3 0); if e = 1 then (errN 1, d) else if e = 0 then (ansYes, d) else (ansNo, d))
/-- What a line is answered, and the desk then. -/
def lineA (d : Dk) (s : List UInt8) : List UInt8 × Dk :=
  match cutG 32 [] s with
  | [] => (ansBad, d)
  | w :: r => match wantW w with
    | none => (ansBad, d)
    | some (named, m) =>
      if r.length = (if named = true then m + 1 else m) then
        (if named = true ∧ r.getD 0 [] = [] then (ansBad, d)
         else match numsL (if named = true then r.drop 1 else r) with
          | none => (ansBad, d)
          | some n => doL d w (if named = true then r.getD 0 [] else []) n)
      else (ansBad, d)
/-- What lines are answered, one behind the other. -/
def runA : Dk → List (List UInt8) → List UInt8
  | _, [] => []
  | d, s :: r => (lineA d s).1 ++ [10] ++ runA (lineA d s).2 r
/-- The lines of a text: a last piece that is empty is none. -/
def linesL (t : List UInt8) : List (List UInt8) := if (cutG 10 [] t).getLast? = some [] then (cutG 10 [] t).dropLast else cutG 10 [] t
def tooLong : List UInt8 := [116, 111, 111, 32, 108, 111, 110, 103, 10]
/-- What a text is answered. -/
def ansT (t : List UInt8) : List UInt8 := if 3000 < t.length then tooLong else runA dk0 (linesL t)
theorem cutG_ne (c : UInt8) : ∀ (l acc : List UInt8), cutG c acc l ≠ []
  | [], acc => by simp [cutG]
  | b :: l, acc => by
    unfold cutG
    split
    · simp
    · exact cutG_ne c l _
/-- A text that ends in the byte, and what follows it, are cut apart. -/
theorem cutG_app (c : UInt8) : ∀ (l acc r : List UInt8), cutG c acc (l ++ c :: r) = cutG c acc l ++ cutG c [] r
  | [], acc, r => by simp [cutG]
  | b :: l, acc, r => by
    rw [List.cons_append, cutG, cutG]
    split
    · rw [cutG_app c l [] r]; rfl
    · exact cutG_app c l _ r
theorem cutG_end (c : UInt8) (l acc : List UInt8) : cutG c acc (l ++ [c]) = cutG c acc l ++ [[]] := by rw [cutG_app c l acc []]; rfl
theorem lines_end (l : List UInt8) : linesL (l ++ [10]) = cutG 10 [] l := by
  unfold linesL
  rw [cutG_end, if_pos (by simp)]
  simp
theorem lines_app (l r : List UInt8) : ∃ m, linesL (l ++ 10 :: r) = cutG 10 [] l ++ m := by
  unfold linesL
  rw [cutG_app]
  by_cases h : (cutG 10 [] l ++ cutG 10 [] r).getLast? = some []
  · rw [if_pos h, List.dropLast_append_of_ne_nil (cutG_ne 10 r [])]
    exact ⟨_, rfl⟩
  · rw [if_neg h]
    exact ⟨_, rfl⟩
theorem runA_app : ∀ (l m : List (List UInt8)) (d : Dk), ∃ x, runA d (l ++ m) = runA d l ++ x
  | [], m, d => ⟨_, rfl⟩
  | s :: l, m, d => by
    obtain ⟨x, hx⟩ := runA_app l m (lineA d s).2
    refine ⟨x, ?_⟩
    rw [List.cons_append, runA, runA, hx]
    simp [List.append_assoc]
/-- The answers to a beginning that ends with a line are a beginning of the answers. -/
theorem ans_begin {t : List UInt8} (h : t.length ≤ 3000) {k : Nat} (hk : k = 0 ∨ k = t.length ∨ (0 < k ∧ t[k - 1]? = some 10)) : ∃ x, ansT t = ansT (t.take k) ++ x := by
  have hl : (t.take k).length ≤ 3000 := by rw [List.length_take]; omega
  unfold ansT
  rw [if_neg (by omega), if_neg (by omega)]
  rcases hk with rfl | rfl | ⟨h0, h1⟩
  · have : linesL (t.take 0) = [] := by rw [List.take_zero]; rfl
    rw [this]
    exact ⟨_, rfl⟩
  · rw [List.take_length]
    exact ⟨[], by rw [List.append_nil]⟩
  · obtain ⟨hk1, hk2⟩ := List.getElem?_eq_some_iff.1 h1
    have e1 : t.take k = t.take (k - 1) ++ [10] := by
      have := List.take_succ_eq_append_getElem hk1
      rw [show k - 1 + 1 = k by omega, hk2] at this
      exact this
    have e2 : t = t.take (k - 1) ++ 10 :: t.drop k := by
      have := List.take_append_drop k t
      rw [e1, List.append_assoc] at this
      exact this.symm
    rw [e1, lines_end]
    obtain ⟨m, hm⟩ := lines_app (t.take (k - 1)) (t.drop k)
    rw [← e2] at hm
    rw [hm]
    exact runA_app _ _ _
end Go.Proofs.YtjkcplpmhjnahaaGreatDoor.M
namespace Go.Proofs.YtjkcplpmhjnahaaGreatDoor.Run
open Go.ChangeShapes Go.WideShapes Go.ChangeAt Go.RowKit
open Go.Proofs.YtjkcplpmhjnahaaGreatDoor.M
def RunLaw (Has : World → Prop) : Prop := ∀ (s : ByteArray) (w : World), s.size ≤ 140737488351232 → Has w →
  Calls Tryz.prog 6 #[.string s] w fun e w' => e = .returned (.string { data := (ansT s.data.toList).toArray }) ∧ Below w.heap.size w w'
end Go.Proofs.YtjkcplpmhjnahaaGreatDoor.Run
namespace Go.Proofs.YtjkcplpmhjnahaaGreatDoor.M
set_option linter.unusedVariables false

/-- What words are answered. -/
def wordsA (d : Dk) (ws : List (List UInt8)) : List UInt8 × Dk :=
  match ws with
  | [] => (ansBad, d)
  | w :: r => match wantW w with
    | none => (ansBad, d)
    | some (named, m) =>
      if r.length = (if named = true then m + 1 else m) then
        (if named = true ∧ r.getD 0 [] = [] then (ansBad, d)
         else match numsL (if named = true then r.drop 1 else r) with
          | none => (ansBad, d)
          | some n => doL d w (if named = true then r.getD 0 [] else []) n)
      else (ansBad, d)
theorem lineA_words (d : Dk) (s : List UInt8) : lineA d s = wordsA d (cutG 32 [] s) := rfl
section
variable {d : Dk} {w x nm : List UInt8} {r : List (List UInt8)} {m : Nat} {ns : List Nat}
theorem words_none (h : wantW w = none) : wordsA d (w :: r) = (ansBad, d) := by
  unfold wordsA
  simp only [h]
theorem words_count {named : Bool} (h : wantW w = some (named, m)) (hl : ¬ r.length = (if named = true then m + 1 else m)) : wordsA d (w :: r) = (ansBad, d) := by
  unfold wordsA
  simp only [h]
  rw [if_neg hl]
theorem words_plain (h : wantW w = some (false, m)) (hl : r.length = m) : wordsA d (w :: r) = match numsL r with
    | none => (ansBad, d)
    | some n => doL d w [] n := by
  unfold wordsA
  simp only [h]
  rw [if_pos (by simpa using hl), if_neg (by simp)]
  simp
theorem words_named (h : wantW w = some (true, m)) (hl : r.length = m) (hx : ¬ x = []) : wordsA d (w :: x :: r) = match numsL r with
    | none => (ansBad, d)
    | some n => doL d w x n := by
  unfold wordsA
  simp only [h]
  rw [if_pos (by simp [hl]), if_neg (by simp [hx])]
  simp
theorem words_empty (h : wantW w = some (true, m)) (hl : r.length = m) : wordsA d (w :: [] :: r) = (ansBad, d) := by
  unfold wordsA
  simp only [h]
  rw [if_pos (by simp [hl]), if_pos (by simp)]
theorem numsL_snoc : ∀ {l : List (List UInt8)} {ns : List Nat} {x : List UInt8} {n : Nat}, numsL l = some ns → numP x = some n → numsL (l ++ [x]) = some (ns ++ [n])
  | [], ns, x, n, h, hx => by
    cases h
    show (match numP x with | none => none | some n => match numsL [] with | none => none | some l => some (n :: l)) = _
    rw [hx]
    rfl
  | y :: l, ns, x, n, h, hx => by
    rw [List.cons_append]
    unfold numsL at h ⊢
    cases hy : numP y with
    | none => rw [hy] at h; cases h
    | some k =>
      rw [hy] at h
      simp only [] at h ⊢
      cases hl : numsL l with
      | none => rw [hl] at h; cases h
      | some ms =>
        rw [hl] at h
        cases h
        rw [numsL_snoc hl hx]
        rfl
theorem numsL_none : ∀ {l r : List (List UInt8)} {x : List UInt8}, numP x = none → numsL (l ++ x :: r) = none
  | [], r, x, hx => by
    show (match numP x with | none => none | some n => match numsL r with | none => none | some l => some (n :: l)) = none
    rw [hx]
  | y :: l, r, x, hx => by
    rw [List.cons_append]
    unfold numsL
    cases hy : numP y with
    | none => rfl
    | some k => simp only [numsL_none hx]
theorem numsL_len : ∀ {l : List (List UInt8)} {ns : List Nat}, numsL l = some ns → ns.length = l.length
  | [], ns, h => by cases h; rfl
  | y :: l, ns, h => by
    unfold numsL at h
    cases hy : numP y with
    | none => rw [hy] at h; cases h
    | some k =>
      rw [hy] at h
      simp only [] at h
      cases hl : numsL l with
      | none => rw [hl] at h; cases h
      | some ms =>
        rw [hl] at h
        cases h
        rw [List.length_cons, List.length_cons, numsL_len hl]
theorem numP_lt {l : List UInt8} {n : Nat} (h : numP l = some n) : n < 10000000 := by
  unfold numP at h
  split at h
  · cases h
  · rename_i hc
    have h1 := Lib.decFrom_lt _ _ _ h
    have h7 : l.length ≤ 7 := by
      by_cases h7 : l.length ≤ 7
      · exact h7
      · exact absurd (Or.inr (Or.inl (by omega))) hc
    have h2 : 10 ^ l.length ≤ 10 ^ 7 := Nat.pow_le_pow_right (by decide) h7
    have h3 : (0 + 1) * 10 ^ l.length = 10 ^ l.length := by rw [Nat.zero_add, Nat.one_mul]
    rw [h3] at h1
    have h4 : (10 : Nat) ^ 7 = 10000000 := by decide
    omega
theorem numsL_lt : ∀ {l : List (List UInt8)} {ns : List Nat}, numsL l = some ns → ∀ n ∈ ns, n < 10000000
  | [], ns, h, n, hn => by cases h; cases hn
  | y :: l, ns, h, n, hn => by
    unfold numsL at h
    cases hy : numP y with
    | none => rw [hy] at h; cases h
    | some k =>
      rw [hy] at h
      simp only [] at h
      cases hl : numsL l with
      | none => rw [hl] at h; cases h
      | some ms =>
        rw [hl] at h
        cases h
        rcases List.mem_cons.1 hn with rfl | hn
        · exact numP_lt hy
        · exact numsL_lt hl n hn
/-- The numbers of the first k words, one more. -/
theorem nums_step {k : Nat} (h : numsL (r.take k) = some ns) {n : Nat} (hx : r[k]? = some x) (hn : numP x = some n) : numsL (r.take (k + 1)) = some (ns ++ [n]) := by
  obtain ⟨hk, e⟩ := List.getElem?_eq_some_iff.1 hx
  rw [List.take_succ_eq_append_getElem hk, e]
  exact numsL_snoc h hn
theorem nums_stop {k : Nat} (hx : r[k]? = some x) (hn : numP x = none) : numsL r = none := by
  obtain ⟨hk, e⟩ := List.getElem?_eq_some_iff.1 hx
  have : r = r.take k ++ x :: r.drop (k + 1) := by
    rw [← e, ← List.drop_eq_getElem_cons hk, List.take_append_drop]
  rw [this]
  exact numsL_none hn
end
end Go.Proofs.YtjkcplpmhjnahaaGreatDoor.M
namespace Go.Proofs.YtjkcplpmhjnahaaGreatDoor.M
set_option linter.unusedVariables false

theorem errN_len (e : Int) : (errN e).length ≤ 20 := by
  unfold errN
  repeat (first | split | decide)
theorem bad_len : ansBad.length ≤ 20 := by decide
theorem yes_len : ansYes.length ≤ 20 := by decide
theorem no_len : ansNo.length ≤ 20 := by decide
theorem ok_len : ansOk.length ≤ 20 := by decide
theorem digs_len {z : Int} (h0 : 0 ≤ z) (h : z < 1000003) : (digs z).length ≤ 7 := by
  unfold digs
  have := dec_len 6 z.toNat (by omega)
  omega
theorem digV_rng (xs : List Int) (m : Int) : 0 ≤ digV xs m ∧ digV xs m < 1000003 := by
  unfold digV
  split
  · exact allFrom_range _ _ (by omega) (by omega)
  · omega
theorem pwZ_rng (a n : Int) : 0 ≤ pwZ a n ∧ pwZ a n < 1000003 := by
  unfold pwZ
  have := pw_lt a.toNat n.toNat
  omega
theorem sigP_rng (x k m : Int) : 0 ≤ sigP x k m ∧ sigP x k m < 1000003 := by
  unfold sigP
  split
  · exact pwZ_rng _ _
  · omega
theorem sigA_rng (x k m : Int) : 0 ≤ sigA x k m ∧ sigA x k m < 1000003 := by
  unfold sigA
  split <;> omega
theorem doL_len (d : Dk) (w nm : List UInt8) (n : List Nat) : (doL d w nm n).1.length ≤ 20 := by
  have hs := fun (t m : Int) => digs_len (stp_ge 7919 t m) (stp_lt 7919 t m)
  unfold doL
  split
  · split
    · have := hs (d.b.getD (n.getD 0 0) 0) (n.getD 1 0 : Nat)
      show (digs _).length ≤ 20
      omega
    · exact errN_len 1
  split
  · split
    · have h := digV_rng d.b (n.getD 0 0 : Nat)
      have := digs_len h.1 h.2
      show (digs _).length ≤ 20
      omega
    · exact errN_len 1
  split
  · split
    · have h := pwZ_rng 64 (n.getD 0 0 : Nat)
      have := digs_len h.1 h.2
      show (digs _).length ≤ 20
      omega
    · exact errN_len 1
  split
  · split
    · exact errN_len 4
    · have h := ofFrom_range 1 nm (by omega) (by omega)
      have := digs_len h.1 h.2
      show (digs _).length ≤ 20
      omega
  split
  · dsimp only
    split
    · split
      · exact yes_len
      · exact no_len
    · exact errN_len _
  split
  · dsimp only
    split
    · exact ok_len
    · exact errN_len _
  split
  · dsimp only
    split
    · have h1 := sigP_rng (n.getD 0 0 : Nat) (n.getD 1 0 : Nat) (n.getD 2 0 : Nat)
      have h2 := sigA_rng (n.getD 0 0 : Nat) (n.getD 1 0 : Nat) (n.getD 2 0 : Nat)
      have h3 := digs_len h1.1 h1.2
      have h4 := digs_len h2.1 h2.2
      show (digs _ ++ [32] ++ digs _).length ≤ 20
      rw [List.length_append, List.length_append]
      show _ + 1 + _ ≤ 20
      omega
    · exact errN_len _
  · dsimp only
    split
    · exact errN_len 1
    · split
      · exact yes_len
      · exact no_len
theorem lineA_len (d : Dk) (s : List UInt8) : (lineA d s).1.length ≤ 20 := by
  unfold lineA
  repeat (first | exact bad_len | exact doL_len _ _ _ _ | split)
theorem runA_len : ∀ (l : List (List UInt8)) (d : Dk), (runA d l).length ≤ 21 * l.length
  | [], d => by simp [runA]
  | s :: l, d => by
    have h1 := runA_len l (lineA d s).2
    have h2 := lineA_len d s
    show ((lineA d s).1 ++ [10] ++ runA (lineA d s).2 l).length ≤ 21 * (s :: l).length
    rw [List.length_append, List.length_append, List.length_cons]
    simp only [List.length_cons, List.length_nil]
    omega
/-- The desk behind some lines. -/
def dkA : Dk → List (List UInt8) → Dk
  | d, [] => d
  | d, s :: r => dkA (lineA d s).2 r
theorem runA_snoc : ∀ (l : List (List UInt8)) (d : Dk) (s : List UInt8), runA d (l ++ [s]) = runA d l ++ ((lineA (dkA d l) s).1 ++ [10]) ∧ dkA d (l ++ [s]) = (lineA (dkA d l) s).2
  | [], d, s => ⟨by simp [runA, dkA], rfl⟩
  | x :: l, d, s => by
    obtain ⟨h1, h2⟩ := runA_snoc l (lineA d x).2 s
    refine ⟨?_, h2⟩
    rw [List.cons_append, runA, h1, runA]
    simp [dkA, List.append_assoc]
theorem take_snoc {α : Type} {l : List α} {k : Nat} {x : α} (h : l[k]? = some x) : l.take (k + 1) = l.take k ++ [x] := by
  obtain ⟨hk, e⟩ := List.getElem?_eq_some_iff.1 h
  rw [List.take_succ_eq_append_getElem hk, e]
theorem cutG_len (c : UInt8) : ∀ (l acc : List UInt8), (cutG c acc l).length ≤ l.length + 1
  | [], acc => by simp [cutG]
  | b :: l, acc => by
    unfold cutG
    split
    · have := cutG_len c l []
      simp
      omega
    · have := cutG_len c l (acc ++ [b])
      simp
      omega
/-- Which lines there are. -/
theorem lines_are {ps : List ByteArray} {t : List UInt8} {m : Nat} {pl : ByteArray} (h : ps.map (fun x => x.data.toList) = cutG 10 [] t) (hm : ps.length = m + 1) (hp : ps[m]? = some pl) :
    linesL t = if pl.data.toList = [] then (ps.take m).map (fun x => x.data.toList) else ps.map (fun x => x.data.toList) := by
  have hl : (ps.map (fun x : ByteArray => x.data.toList)).getLast? = some pl.data.toList := by
    rw [List.getLast?_eq_getElem?, List.length_map, hm, Nat.add_sub_cancel, List.getElem?_map, hp]
    rfl
  unfold linesL
  rw [← h, hl]
  by_cases he : pl.data.toList = []
  · rw [if_pos (by rw [he]), if_pos he, List.dropLast_eq_take, List.length_map, hm, Nat.add_sub_cancel, List.map_take]
  · rw [if_neg (fun hc => he (Option.some.inj hc)), if_neg he]
end Go.Proofs.YtjkcplpmhjnahaaGreatDoor.M
namespace Go.Proofs.YtjkcplpmhjnahaaGreatDoor.OpenI
open Go.ChangeShapes Go.WideShapes Go.ChangeAt Go.RowKit
open Go.Proofs.YtjkcplpmhjnahaaGreatDoor.M

theorem image {H : Type} {enc : TypeId × Value → H} {P : Program} {W : World} {b0 base : Nat} {sp : Nat → Bool} {hd : Bool} {t : TypeId} {f0 f1 f2 : Field} {v : Value} {d : DataW H} {ps : List MemPlace}
    (hu : P.underlying t = some (.struct #[f0, f1, f2])) (h0 : P.underlying f0.type = some .string) (h1 : P.underlying f1.type = some (.int .i64)) (h2 : P.underlying f2.type = some .string)
    (o0 : f0.offset = 0) (o1 : f1.offset = 1) (o2 : f2.offset = 2) (c0 : P.cellsOf f0.type = 1) (c1 : P.cellsOf f1.type = 1) (c2 : P.cellsOf f2.type = 1) (ct : P.cellsOf t = 3)
    (hv : Value.okWide P W .any base t v) (h : DataW.Trod enc P W b0 sp hd t v d ps) :
    ∃ (nm cd : ByteArray) (z : Int), v = .agg (imgC nm z cd) ∧ d = .agg [.lit (.string nm.data.toList), .lit (.int .i64 z), .lit (.string cd.data.toList)] := by
  obtain ⟨cs, rfl, hsz, _⟩ : ∃ cs, v = .agg cs ∧ cs.size = P.cellsOf t ∧ Row.okWide P W .any base t cs := by
    simpa [Value.okWide, hu] using hv
  rw [ct] at hsz
  obtain ⟨fuel, hf⟩ := h
  obtain ⟨xs, m, _, hx, _, hl, hy⟩ := DataW.trod_struct hu hf
  have hl3 : xs.length = 3 := hl
  obtain ⟨x0, x1, x2, rfl⟩ : ∃ x0 x1 x2, xs = [x0, x1, x2] := by
    match xs, hl3 with
    | [x0, x1, x2], _ => exact ⟨x0, x1, x2, rfl⟩
  have g0 := hy 0 f0 rfl
  have g1 := hy 1 f1 rfl
  have g2 := hy 2 f2 rfl
  rw [o0, c0] at g0
  rw [o1, c1] at g1
  rw [o2, c2] at g2
  obtain ⟨nm, e0, rfl, _⟩ := DataW.trod_string h0 g0
  obtain ⟨z, e1, rfl, _⟩ := DataW.trod_int h1 g1
  obtain ⟨cd, e2, rfl, _⟩ := DataW.trod_string h2 g2
  refine ⟨nm, cd, z, ?_, ?_⟩
  · congr 1
    apply Array.ext'
    have hcs : (Value.agg cs).cells.toList = cs.toList := rfl
    rw [hcs] at e0 e1 e2
    have hlen : cs.toList.length = 3 := by simpa using hsz
    generalize cs.toList = l at e0 e1 e2 hlen
    match l, hlen with
    | [a, b, c], _ =>
      simp at e0 e1 e2
      rw [e0, e1, e2]
      rfl
  · have := congrArg (fun q => q.1) hx
    simpa using this

theorem sized {H : Type} {P : Program} {ts : List TypeId} {ds : List (DataW H)} {j : Nat} {t : TypeId} {fs : Array Field} {a c : List UInt8} {z : Int} {t0 t1 t2 : TypeId}
    (h : (DataW.weightsEach P ts ds).all (· ≤ reachBytes) = true) (ht : ts[j]? = some t) (hu : P.underlying t = some (.struct fs)) (hfs : fs.toList.map (·.type) = [t0, t1, t2])
    (hd : ds[j]? = some (.agg [.lit (.string a), .lit (.int .i64 z), .lit (.string c)])) : a.length ≤ 140737488351232 ∧ c.length ≤ 140737488351232 := by
  have key : ∀ k, k ∈ DataW.weights (H := H) P t (.agg [.lit (.string a), .lit (.int .i64 z), .lit (.string c)]) → k ≤ reachBytes := fun k hk => by
    have := List.all_eq_true.1 h _ (DataW.weights_mem_each ht hd k hk)
    simpa using this
  have hw : DataW.weights (H := H) P t (.agg [.lit (.string a), .lit (.int .i64 z), .lit (.string c)]) = [a.length, c.length] := by
    simp [DataW.weights, hu, hfs, DataW.weightsEach]
  rw [hw] at key
  have e : reachBytes = 140737488351232 := by decide
  rw [e] at key
  exact ⟨key _ (by simp), key _ (by simp)⟩

/-- The cells of a listed table. -/
def val1 : DataW Unit → List Value
  | .lit (.int k z) => [.int k z]
  | _ => []
def val2 : DataW Unit → Array Value
  | .agg ps => (ps.flatMap fun d => match d with | .agg qs => qs.flatMap val1 | d => val1 d).toArray
  | _ => #[]

/-- A world in which variables hold what is listed. -/
def put (cs : Array Value) : Obj → Obj
  | .cells _ t frozen => .cells cs t frozen
  | o => o
def lay (w : World) (l : List (Nat × Array Value)) : World := { w with heap := l.foldl (fun h x => h.modify x.1 (put x.2)) w.heap }
theorem pow_tab : Rows.laid_internal_strconv_uint64pow10 = Lib.tabData (H := Unit) .u64 Lib.pow10Tab := by kernel_rfl
theorem has_of {W : World} {nT nS : String} {r q : List (String × DataW Unit)} (hT : Tryz.prog.globalNamed nT = some 7) (hS : Tryz.prog.globalNamed nS = some 5)
    (h3 : laidMet Tryz.prog ((nT, Rows.laid_internal_strconv_uint64pow10) :: r) W) (h6 : laidMet Tryz.prog ((nS, Rows.laid_strconv_ErrSyntax) :: q) W) : Image.Has W := by
  rw [pow_tab] at h3
  have tb := Lib.tabIs_of_head (t := 194) (e := 176) hT (by kernel_rfl) (n := 20) Tryz.underlying194 Tryz.underlying176 (by kernel_rfl) (by kernel_rfl) h3
  obtain ⟨a, s, hv, _⟩ := laid_sentinel (ti := 47) (tp := 190) (te := 192) (ts := 9) h6 hS (by kernel_rfl) Tryz.underlying47 (fun u hu => typeName_ptr_named (nm := "errors.errorString") (by kernel_rfl) (by kernel_rfl) (by decide) u (hu.trans (congrArg some (by decide)))) Tryz.underlying190 Tryz.underlying192 rfl rfl Tryz.underlying9 (by kernel_rfl) (by kernel_rfl)
  have hc := World.var?_cell hS hv 0
  refine ⟨⟨?_, fun nm hg => ?_⟩, 190, .pointer (some a), by simpa using hc⟩
  · exact World.block_lt_of_cell? W ⟨7, 0, none⟩ (tb.cell hT 0 (by decide))
  · unfold Lib.TabIs at tb
    rw [← tb]
    unfold World.var?
    rw [hg, hT]
end Go.Proofs.YtjkcplpmhjnahaaGreatDoor.OpenI
namespace Go.Proofs.YtjkcplpmhjnahaaGreatDoor.As
open Go.RowKit Go.Extern.Stop Go.Stop Go.Extern
set_option linter.unusedVariables false

/-- What the variable errors.errorType holds: the handle of type error. -/
def Handle (w : World) : Prop := w.cell? ⟨1, 0, none⟩ = some (.iface 142 (.agg #[.pointer (some ⟨15, 47, none⟩)]))
theorem Handle.lt {w : World} (h : Handle w) : 1 < w.heap.size := World.block_lt_of_cell? w _ h
theorem Handle.below {w w' : World} (h : Handle w) (hb : Below w.heap.size w w') : Handle w' := by
  unfold Handle
  rw [hb.cell (p := ⟨1, 0, none⟩) h.lt]
  exact h

theorem valueOfP (t : Addr) (w : World) : (ReflectliteValue.unpack (.iface 100 (.pointer (some t)))).run Tryz.prog w
    = .ok (.agg #[.pointer (some ⟨15, 100, none⟩), .pointer (some ⟨w.heap.size, 0, none⟩), .int .u64 150]) (w.alloc (.cells #[.pointer (some t)] 100)) := by kernel_rfl
theorem typeP (a : Addr) (w : World) : (ReflectliteValue.methodAny (ReflectliteValue.valueError "reflectlite.Value.Type" 0) (fun t _ _ _ => ReflectliteType.toType t) #[.agg #[.pointer (some ⟨15, 100, none⟩), .pointer (some a), .int .u64 150]]).run Tryz.prog w
    = .ok (.iface 142 (.agg #[.pointer (some ⟨15, 100, none⟩)])) w := by kernel_rfl
theorem methodKind (h : Value) (w : World) : (Go.method 338 142 (.agg #[h]) "Kind").run Tryz.prog w = .ok (158, h) w := by kernel_rfl
theorem kindP (w : World) : ((ReflectliteType.abiMethod fun t => Functor.map (fun a : Nat => Value.int IntKind.u8 (a : Int)) (Rtype.kind t)) #[.pointer (some ⟨15, 100, none⟩)]).run Tryz.prog w = .ok (.int .u8 22) w := by kernel_rfl
theorem kindE (w : World) : ((ReflectliteType.abiMethod fun t => Functor.map (fun a : Nat => Value.int IntKind.u8 (a : Int)) (Rtype.kind t)) #[.pointer (some ⟨15, 98, none⟩)]).run Tryz.prog w = .ok (.int .u8 2) w := by kernel_rfl

theorem partsP (a : Addr) (w : World) : (ReflectliteValue.parts (.agg #[.pointer (some ⟨15, 100, none⟩), .pointer (some a), .int .u64 150])).run Tryz.prog w = .ok (some (100, a, 150)) w := by kernel_rfl
theorem isNilP (a p : Addr) (W : World) (ha : W.cell? a = some (.pointer (some p))) :
    (ReflectliteValue.method (ReflectliteValue.valueError "reflectlite.Value.IsNil" 0) ReflectliteValue.isNil #[.agg #[.pointer (some ⟨15, 100, none⟩), .pointer (some a), .int .u64 150]]).run Tryz.prog W = .ok (.bool false) W := by
  show (ReflectliteValue.parts _ >>= _).run _ _ = _
  simp only [Sem.run_bind, Array.getLit, List.getElem_toArray, List.getElem_cons_zero, partsP, Result.andThen]
  simp [ReflectliteValue.isNil, loadVar, isAgg, underlying, Tryz.underlying100, ha, Result.andThen]

theorem methodElem (h : Value) (w : World) : (Go.method 338 142 (.agg #[h]) "Elem").run Tryz.prog w = .ok (169, .agg #[h]) w := by kernel_rfl
theorem methodImplements (h : Value) (w : World) : (Go.method 338 142 (.agg #[h]) "Implements").run Tryz.prog w = .ok (170, .agg #[h]) w := by kernel_rfl
theorem methodAssignableTo (h : Value) (w : World) : (Go.method 338 142 (.agg #[h]) "AssignableTo").run Tryz.prog w = .ok (167, .agg #[h]) w := by kernel_rfl
theorem elemP (w : World) : (ReflectliteType.method ReflectliteType.elem #[.agg #[.pointer (some ⟨15, 100, none⟩)]]).run Tryz.prog w = .ok (.iface 142 (.agg #[.pointer (some ⟨15, 98, none⟩)])) w := by kernel_rfl
theorem implementsE (w : World) : (ReflectliteType.relation "Implements" ReflectliteType.implements_ #[.agg #[.pointer (some ⟨15, 98, none⟩)], .iface 142 (.agg #[.pointer (some ⟨15, 47, none⟩)])]).run Tryz.prog w = .ok (.bool true) w := by kernel_rfl
theorem typeOfE (v : Value) (w : World) : (ReflectliteType.typeOf #[.iface 98 v]).run Tryz.prog w = .ok (.iface 142 (.agg #[.pointer (some ⟨15, 98, none⟩)])) w := by kernel_rfl
theorem assignableE (w : World) : (ReflectliteType.relation "AssignableTo" ReflectliteType.assignableTo #[.agg #[.pointer (some ⟨15, 98, none⟩)], .iface 142 (.agg #[.pointer (some ⟨15, 98, none⟩)])]).run Tryz.prog w = .ok (.bool true) w := by kernel_rfl
theorem valueOfE (k : Int) (w : World) : (ReflectliteValue.unpack (.iface 98 (.int .i64 k))).run Tryz.prog w
    = .ok (.agg #[.pointer (some ⟨15, 98, none⟩), .pointer (some ⟨w.heap.size, 0, none⟩), .int .u64 130]) (w.alloc (.cells #[.int .i64 k] 98)) := by kernel_rfl

theorem elemOfP (w : World) : (Rtype.elem? 100).run Tryz.prog w = .ok (some 98) w := by kernel_rfl
theorem mkE (p : Addr) (w : World) : (ReflectliteValue.mk 98 p ReflectliteValue.flagAddr).run Tryz.prog w = .ok (.agg #[.pointer (some ⟨15, 98, none⟩), .pointer (some p), .int .u64 386]) w := by kernel_rfl
theorem elemVP (a p : Addr) (W : World) (ha : W.cell? a = some (.pointer (some p))) :
    (ReflectliteValue.method (ReflectliteValue.valueError "reflectlite.Value.Elem" 0) ReflectliteValue.elem #[.agg #[.pointer (some ⟨15, 100, none⟩), .pointer (some a), .int .u64 150]]).run Tryz.prog W
      = .ok (.agg #[.pointer (some ⟨15, 98, none⟩), .pointer (some p), .int .u64 386]) W := by
  show (ReflectliteValue.parts _ >>= _).run _ _ = _
  simp only [Sem.run_bind, Array.getLit, List.getElem_toArray, List.getElem_cons_zero, partsP, Result.andThen]
  simp [ReflectliteValue.elem, loadVar, isAgg, underlying, Tryz.underlying100, ha, Result.andThen, elemOfP, mkE]
theorem partsA (a : Addr) (w : World) : (ReflectliteValue.parts (.agg #[.pointer (some ⟨15, 98, none⟩), .pointer (some a), .int .u64 386])).run Tryz.prog w = .ok (some (98, a, 386)) w := by kernel_rfl
theorem partsE (a : Addr) (w : World) : (ReflectliteValue.parts (.agg #[.pointer (some ⟨15, 98, none⟩), .pointer (some a), .int .u64 130])).run Tryz.prog w = .ok (some (98, a, 130)) w := by kernel_rfl
theorem directE (w : World) : (Rtype.directlyAssignable 98 98).run Tryz.prog w = .ok true w := by kernel_rfl
theorem setE (ta b : Addr) (k : Int) (old : Value) (W : World) (hb : W.cell? b = some (.int .i64 k)) (ht : W.cell? ta = some old) (hf : W.frozen? ta = false) :
    (ReflectliteValue.set #[.agg #[.pointer (some ⟨15, 98, none⟩), .pointer (some ta), .int .u64 386], .agg #[.pointer (some ⟨15, 98, none⟩), .pointer (some b), .int .u64 130]]).run Tryz.prog W
      = .ok (.tuple #[]) (W.setCell ta (.int .i64 k)) := by
  show (ReflectliteValue.parts _ >>= _).run _ _ = _
  simp only [Sem.run_bind, Array.getLit, List.getElem_toArray, List.getElem_cons_zero, List.getElem_cons_succ, partsA, partsE, Result.andThen]
  simp [ReflectliteValue.flagAddr, loadVar, isAgg, underlying, Tryz.underlying98, hb, Result.andThen, directE, storeVar, Value.cells, storeCells, Addr.add]
  rw [run_store Tryz.prog W ta _ _ (by rfl)]
  simp [ht, hf]

set_option maxHeartbeats 4000000 in
theorem as_hit (k : Int) (t : Addr) (old : Value) (w : World) (hg0 : Handle w) (ht0 : w.cell? t = some old) (hf0 : w.frozen? t = false) :
    Calls Tryz.prog 48 #[.iface 98 (.int .i64 k), .iface 100 (.pointer (some t))] w fun ev w' => ev = .returned (.bool true) ∧ w' = ((((w.alloc (.cells #[.pointer (some t)] 100)).alloc (.cells #[.pointer (some ⟨15, 100, none⟩), .pointer (some ⟨w.heap.size, 0, none⟩), .int .u64 150] 119)).alloc (.cells #[.pointer (some ⟨15, 100, none⟩), .pointer (some ⟨w.heap.size, 0, none⟩), .int .u64 150] 119)).alloc (.cells #[.int .i64 k] 98)).setCell t (.int .i64 k) := by
  have h6 := @run_callFunc_extern Tryz.prog 68 _ (fun args => ReflectliteValue.unpack (args.getD 0 (.tuple #[]))) Tryz.func68 (by kernel_rfl) (by kernel_rfl) (by kernel_rfl) (by kernel_rfl)
  have h7 := @run_callFunc_extern Tryz.prog 69 _ (ReflectliteValue.methodAny (ReflectliteValue.valueError "reflectlite.Value.Type" 0) (fun t _ _ _ => ReflectliteType.toType t)) Tryz.func69 (by kernel_rfl) (by kernel_rfl) (by kernel_rfl) (by kernel_rfl)
  have h8 := @run_callFunc_extern Tryz.prog 70 _ (ReflectliteValue.method (ReflectliteValue.valueError "reflectlite.Value.IsNil" 0) ReflectliteValue.isNil) Tryz.func70 (by kernel_rfl) (by kernel_rfl) (by kernel_rfl) (by kernel_rfl)
  have h27 := @run_callFunc_extern Tryz.prog 158 _ (ReflectliteType.abiMethod fun t => do pure (.int .u8 (← Rtype.kind t))) Tryz.func158 (by kernel_rfl) (by kernel_rfl) (by kernel_rfl) (by kernel_rfl)
  have h37 := @run_callFunc_extern Tryz.prog 169 _ (ReflectliteType.method ReflectliteType.elem) Tryz.func169 (by kernel_rfl) (by kernel_rfl) (by kernel_rfl) (by kernel_rfl)
  have h38 := @run_callFunc_extern Tryz.prog 170 _ (ReflectliteType.relation "Implements" ReflectliteType.implements_) Tryz.func170 (by kernel_rfl) (by kernel_rfl) (by kernel_rfl) (by kernel_rfl)
  have h10 := @run_callFunc_extern Tryz.prog 96 _ ReflectliteType.typeOf Tryz.func96 (by kernel_rfl) (by kernel_rfl) (by kernel_rfl) (by kernel_rfl)
  have h35 := @run_callFunc_extern Tryz.prog 167 _ (ReflectliteType.relation "AssignableTo" ReflectliteType.assignableTo) Tryz.func167 (by kernel_rfl) (by kernel_rfl) (by kernel_rfl) (by kernel_rfl)
  have h11 := @run_callFunc_extern Tryz.prog 97 _ (ReflectliteValue.method (ReflectliteValue.valueError "reflectlite.Value.Elem" 0) ReflectliteValue.elem) Tryz.func97 (by kernel_rfl) (by kernel_rfl) (by kernel_rfl) (by kernel_rfl)
  have h12 := @run_callFunc_extern Tryz.prog 98 _ ReflectliteValue.set Tryz.func98 (by kernel_rfl) (by kernel_rfl) (by kernel_rfl) (by kernel_rfl)
  have tO := typeOfE
  have mA := methodAssignableTo
  have a25 := assignableE
  have v25 := valueOfE
  have f6 := valueOfP
  have f7 := typeP
  have mK := methodKind
  have mE := methodElem
  have mI := methodImplements
  have k27 := kindP
  have k25 := kindE
  have e27 := elemP
  have i25 := implementsE
  have n8 := isNilP ⟨w.heap.size, 0, none⟩ t ((w.alloc (.cells #[.pointer (some t)] 100)).alloc (.cells #[.pointer (some ⟨15, 100, none⟩), .pointer (some ⟨w.heap.size, 0, none⟩), .int .u64 150] 119)) (by simp)
  have hlt := hg0.lt
  have hg : w.cell? ⟨1, 0, none⟩ = some (.iface 142 (.agg #[.pointer (some ⟨15, 47, none⟩)])) := hg0
  have hg2 : ((w.alloc (.cells #[.pointer (some t)] 100)).alloc (.cells #[.pointer (some ⟨15, 100, none⟩), .pointer (some ⟨w.heap.size, 0, none⟩), .int .u64 150] 119)).cell? ⟨1, 0, none⟩ = some (.iface 142 (.agg #[.pointer (some ⟨15, 47, none⟩)])) := by
    rw [World.cell?_alloc_lt _ _ ⟨1, 0, none⟩ (by first | (simp; done) | (simp; omega)), World.cell?_alloc_lt _ _ ⟨1, 0, none⟩ hlt]; exact hg
  have htl : t.block < w.heap.size := World.block_lt_of_cell? w t ht0
  have el := elemVP ⟨w.heap.size, 0, none⟩ t (((w.alloc (.cells #[.pointer (some t)] 100)).alloc (.cells #[.pointer (some ⟨15, 100, none⟩), .pointer (some ⟨w.heap.size, 0, none⟩), .int .u64 150] 119)).alloc (.cells #[.pointer (some ⟨15, 100, none⟩), .pointer (some ⟨w.heap.size, 0, none⟩), .int .u64 150] 119)) (by rw [World.cell?_alloc_lt _ _ ⟨w.heap.size, 0, none⟩ (by simp; omega)]; simp)
  have st := setE t ⟨w.heap.size + 1 + 1 + 1, 0, none⟩ k old ((((w.alloc (.cells #[.pointer (some t)] 100)).alloc (.cells #[.pointer (some ⟨15, 100, none⟩), .pointer (some ⟨w.heap.size, 0, none⟩), .int .u64 150] 119)).alloc (.cells #[.pointer (some ⟨15, 100, none⟩), .pointer (some ⟨w.heap.size, 0, none⟩), .int .u64 150] 119)).alloc (.cells #[.int .i64 k] 98))
    (by rw [World.cell?_alloc_at _ _ _ _ (by simp)]; rfl)
    (by rw [World.cell?_alloc_lt _ _ t (by simp; omega), World.cell?_alloc_lt _ _ t (by simp; omega), World.cell?_alloc_lt _ _ t (by simp; omega), World.cell?_alloc_lt _ _ t htl]; exact ht0)
    (by rw [World.frozen?_alloc_old _ _ t (by simp; omega), World.frozen?_alloc_old _ _ t (by simp; omega), World.frozen?_alloc_old _ _ t (by simp; omega), World.frozen?_alloc_old _ _ t (Nat.ne_of_lt htl)]; exact hf0)
  clear hg0 hg
  go_enter Tryz.func48, Tryz.ntmps48
  go_wp2
  refine wp_loop_rounds 1 ?_
  rw [rounds_succ]
  go_wp2
  go_ret
  exact ⟨rfl, rfl⟩

end Go.Proofs.YtjkcplpmhjnahaaGreatDoor.As
namespace Go.Proofs
open Go.Shelf
def Tryz.lays156_ren : Go.Shelf.Ren := ⟨fun | 156 => 107 | 165 => 120 | 166 => 12 | 169 => 14 | 240 => 32 | 241 => 129 | 276 => 43 | 277 => 139 | n => n, fun | 31 => 23 | 9 => 9 | 3 => 3 | 4 => 4 | 0 => 0 | 20 => 20 | 72 => 42 | 76 => 48 | 70 => 39 | 37 => 40 | 75 => 47 | 127 => 81 | 164 => 90 | 5 => 5 | 80 => 50 | n => n, fun | n => n⟩
theorem Tryz.lays156 : Go.Proofs.Lays.n156 Tryz.prog Tryz.lays156_ren := {
  mixed := by kernel_rfl
  f156 := Tryz.func107.trans (congrArg some (by kernel_rfl))
  f165 := Tryz.func120.trans (congrArg some (by kernel_rfl))
  f166 := Tryz.func12.trans (congrArg some (by kernel_rfl))
  f169 := Tryz.func14.trans (congrArg some (by kernel_rfl))
  f240 := Tryz.func32.trans (congrArg some (by kernel_rfl))
  f241 := Tryz.func129.trans (congrArg some (by kernel_rfl))
  f276 := Tryz.func43.trans (congrArg some (by kernel_rfl))
  f277 := Tryz.func139.trans (congrArg some (by kernel_rfl))
  t0 := Tryz.underlying0
  a0 := Tryz.isAgg0
  z0 := Tryz.sizeOf0
  v0 := Tryz.zeroValue0
  t3 := Tryz.underlying3
  a3 := Tryz.isAgg3
  z3 := Tryz.sizeOf3
  v3 := Tryz.zeroValue3
  t4 := Tryz.underlying4
  a4 := Tryz.isAgg4
  z4 := Tryz.sizeOf4
  v4 := Tryz.zeroValue4
  t9 := Tryz.underlying9
  a9 := Tryz.isAgg9
  z9 := Tryz.sizeOf9
  v9 := Tryz.zeroValue9
  t20 := Tryz.underlying20
  a20 := Tryz.isAgg20
  z20 := Tryz.sizeOf20
  v20 := Tryz.zeroValue20
  t31 := Tryz.underlying23
  a31 := Tryz.isAgg23
  z31 := Tryz.sizeOf23
  v31 := Tryz.zeroValue23
  t37 := Tryz.underlying40
  a37 := Tryz.isAgg40
  z37 := Tryz.sizeOf40
  v37 := Tryz.zeroValue40
  t70 := Tryz.underlying39
  a70 := Tryz.isAgg39
  z70 := Tryz.sizeOf39
  v70 := Tryz.zeroValue39
  t72 := Tryz.underlying42
  a72 := Tryz.isAgg42
  z72 := Tryz.sizeOf42
  v72 := Tryz.zeroValue42
  t75 := Tryz.underlying47
  a75 := Tryz.isAgg47
  z75 := Tryz.sizeOf47
  v75 := Tryz.zeroValue47
  t76 := Tryz.underlying48
  a76 := Tryz.isAgg48
  z76 := Tryz.sizeOf48
  v76 := Tryz.zeroValue48
  t127 := Tryz.underlying81
  a127 := Tryz.isAgg81
  z127 := Tryz.sizeOf81
  v127 := Tryz.zeroValue81
  t164 := Tryz.underlying90
  a164 := Tryz.isAgg90
  z164 := Tryz.sizeOf90
  v164 := Tryz.zeroValue90 }
def Tryz.lays169_ren : Go.Shelf.Ren := ⟨fun | 169 => 14 | n => n, fun | 70 => 39 | 9 => 9 | 0 => 0 | 72 => 42 | 37 => 40 | 127 => 81 | 3 => 3 | 5 => 5 | n => n, fun | n => n⟩
theorem Tryz.lays169 : Go.Proofs.Lays.n169 Tryz.prog Tryz.lays169_ren := {
  mixed := by kernel_rfl
  f169 := Tryz.func14.trans (congrArg some (by kernel_rfl))
  t0 := Tryz.underlying0
  a0 := Tryz.isAgg0
  z0 := Tryz.sizeOf0
  v0 := Tryz.zeroValue0
  t3 := Tryz.underlying3
  a3 := Tryz.isAgg3
  z3 := Tryz.sizeOf3
  v3 := Tryz.zeroValue3
  t9 := Tryz.underlying9
  a9 := Tryz.isAgg9
  z9 := Tryz.sizeOf9
  v9 := Tryz.zeroValue9
  t37 := Tryz.underlying40
  a37 := Tryz.isAgg40
  z37 := Tryz.sizeOf40
  v37 := Tryz.zeroValue40
  t70 := Tryz.underlying39
  a70 := Tryz.isAgg39
  z70 := Tryz.sizeOf39
  v70 := Tryz.zeroValue39
  t72 := Tryz.underlying42
  a72 := Tryz.isAgg42
  z72 := Tryz.sizeOf42
  v72 := Tryz.zeroValue42
  t127 := Tryz.underlying81
  a127 := Tryz.isAgg81
  z127 := Tryz.sizeOf81
  v127 := Tryz.zeroValue81 }
end Go.Proofs
namespace Go.Proofs.YtjkcplpmhjnahaaGreatDoor.M
open Go.ChangeShapes Go.WideShapes Go.ChangeAt Go.RowKit

theorem tri_cells {w : World} {b : Nat} {x y z : Value} {t : TypeId} {fr : Nat × Nat} (h : w.heap[b]? = some (.cells #[x, y, z] t fr)) :
    w.cell? ⟨b, 0, none⟩ = some x ∧ w.cell? ⟨b, 1, none⟩ = some y ∧ w.cell? ⟨b, 2, none⟩ = some z := by
  refine ⟨?_, ?_, ?_⟩ <;> rw [cell_of_row w b _ _ t fr h] <;> rfl
theorem tri_free {w : World} {b : Nat} {c : Array Value} {t : TypeId} (h : w.heap[b]? = some (.cells c t)) :
    w.frozen? ⟨b, 0, none⟩ = false ∧ w.frozen? ⟨b, 1, none⟩ = false ∧ w.frozen? ⟨b, 2, none⟩ = false := ⟨frozen_of_row w b 0 _ _ h, frozen_of_row w b 1 _ _ h, frozen_of_row w b 2 _ _ h⟩
theorem tri_set {w : World} {b : Nat} {a0 a1 a2 x y z : Value} {t : TypeId} {fr : Nat × Nat} (hg : w.heap[b]? = some (.cells #[a0, a1, a2] t fr)) :
    ((w.setCell ⟨b, 0, none⟩ x).setCell ⟨b, 1, none⟩ y).setCell ⟨b, 2, none⟩ z = w.setRow b #[x, y, z] := by
  rw [setCell_eq_setRow w b 0 _ _ _ x hg]
  have h1 := setRow_heap w b _ (#[a0, a1, a2].setIfInBounds 0 x) t fr hg
  rw [setCell_eq_setRow _ b 1 _ _ _ y h1, setRow_setRow]
  have h2 := setRow_heap w b _ ((#[a0, a1, a2].setIfInBounds 0 x).setIfInBounds 1 y) t fr hg
  rw [setCell_eq_setRow _ b 2 _ _ _ z h2, setRow_setRow]
  rfl
theorem quin_cells {w : World} {b : Nat} {x0 x1 x2 x3 x4 : Value} {t : TypeId} {fr : Nat × Nat} (h : w.heap[b]? = some (.cells #[x0, x1, x2, x3, x4] t fr)) :
    w.cell? ⟨b, 0, none⟩ = some x0 ∧ w.cell? ⟨b, 1, none⟩ = some x1 ∧ w.cell? ⟨b, 2, none⟩ = some x2 ∧ w.cell? ⟨b, 3, none⟩ = some x3 ∧ w.cell? ⟨b, 4, none⟩ = some x4 := by
  refine ⟨?_, ?_, ?_, ?_, ?_⟩ <;> rw [cell_of_row w b _ _ t fr h] <;> rfl
theorem quin_free {w : World} {b : Nat} {c : Array Value} {t : TypeId} (h : w.heap[b]? = some (.cells c t)) :
    w.frozen? ⟨b, 0, none⟩ = false ∧ w.frozen? ⟨b, 1, none⟩ = false ∧ w.frozen? ⟨b, 2, none⟩ = false ∧ w.frozen? ⟨b, 3, none⟩ = false ∧ w.frozen? ⟨b, 4, none⟩ = false :=
  ⟨frozen_of_row w b 0 _ _ h, frozen_of_row w b 1 _ _ h, frozen_of_row w b 2 _ _ h, frozen_of_row w b 3 _ _ h, frozen_of_row w b 4 _ _ h⟩
theorem quin_set {w : World} {b : Nat} {a0 a1 a2 a3 a4 x0 x1 x2 x3 x4 : Value} {t : TypeId} {fr : Nat × Nat} (hg : w.heap[b]? = some (.cells #[a0, a1, a2, a3, a4] t fr)) :
    ((((w.setCell ⟨b, 0, none⟩ x0).setCell ⟨b, 1, none⟩ x1).setCell ⟨b, 2, none⟩ x2).setCell ⟨b, 3, none⟩ x3).setCell ⟨b, 4, none⟩ x4 = w.setRow b #[x0, x1, x2, x3, x4] := by
  rw [setCell_eq_setRow w b 0 _ _ _ x0 hg]
  have h1 := setRow_heap w b _ (#[a0, a1, a2, a3, a4].setIfInBounds 0 x0) t fr hg
  rw [setCell_eq_setRow _ b 1 _ _ _ x1 h1, setRow_setRow]
  have h2 := setRow_heap w b _ ((#[a0, a1, a2, a3, a4].setIfInBounds 0 x0).setIfInBounds 1 x1) t fr hg
  rw [setCell_eq_setRow _ b 2 _ _ _ x2 h2, setRow_setRow]
  have h3 := setRow_heap w b _ (((#[a0, a1, a2, a3, a4].setIfInBounds 0 x0).setIfInBounds 1 x1).setIfInBounds 2 x2) t fr hg
  rw [setCell_eq_setRow _ b 3 _ _ _ x3 h3, setRow_setRow]
  have h4 := setRow_heap w b _ ((((#[a0, a1, a2, a3, a4].setIfInBounds 0 x0).setIfInBounds 1 x1).setIfInBounds 2 x2).setIfInBounds 3 x3) t fr hg
  rw [setCell_eq_setRow _ b 4 _ _ _ x4 h4, setRow_setRow]
  rfl
end Go.Proofs.YtjkcplpmhjnahaaGreatDoor.M
