/-
  Several texts in one: Plain mathematics on measures: one step modulo 1000003, a row of numbers taken step by step, a text taken byte by byte; nothing of the program stands here. / Plain laws, over any program, on rows of ints in memory: one that can be read, one that the call itself made, and what append makes of the latter; what string of one byte is. / Plain facts on blocks of memory, over any program: what a block held it holds, and a row of three ints laid in a block of its own. / Plain mathematics on banks of registers: a bank's cells, which registers a mask asks for, a bank's fault, what is extended, a digest, and whether two banks are alike; and what memory holds of a bank that was laid in a block. / Plain mathematics on images: which texts are of letters alone, what is wrong with an image, and that a search by runes for what is no letter finds one just where a byte is none. / The library's functions that the program reaches (strconv.Itoa, strconv.Atoi, stringslite.Clone, strings.Index, strings.ContainsFunc, bytes.IndexByte, stringslite.Index), held body by body against those of which the shelf's contracts speak. / Contracts of package measure's functions (step, isMeasure, Two, row, All, Of) over this translation: what each returns, and that memory stays as it was. / Plain laws, over any program, on worlds that are alike but for some blocks: what a call that writes to its own object alone leaves as it was; append to a row of ints of the call's own, with the block that it lies in. / Plain mathematics on counts: a least version of each name; what raising one makes of it, and what may be; the names that a law lays. / Plain mathematics on counts of one name alone: its least version is the greatest that was, in whatever order. / Plain mathematics on logs: the records that are there, how many bytes each has, how many are safe, when it stops; what raising, syncing and crashing make of one, and the counts that the records make. / Contracts of package image's isLetters, IsVersion and Check: whether a text is of letters alone, and what is wrong with an image; memory that was there stays as it was. / Plain mathematics on texts: which texts are numbers of at most four digits and that they are just those that are printed, and how a text is cut at blanks, whole or as far as four parts. / What the library's variables hold that strconv reads, and contracts of strconv.Itoa, strconv.Atoi and strings.Clone as the program calls them, over the shelf's; memory that was there stays as it was. / What is to be proved of package log's object, whatever it is made of: how it lies in memory, and what New, Raise, Sync, Fail, Crash, Least, Bytes and Safe do to it. / Plain laws, over any program, on things that lie apart in memory: each has its blocks, stays as it is while only others' blocks change, and one at a time may take a step. / The program's log as a thing that lies apart from others; and what its calls do among such things. / Plain mathematics on a log of one name alone: its least version is the greatest that was raised, and behind a crash it is none above. / Contracts of package image's Print, Measure and Newer: an image as text, its measure, and whether one is newer than another; memory that was there stays as it was. / Contract of package image's Clone over this translation: it returns the same image, and memory that was there stays as it was. / Plain mathematics on keys and seals: powers modulo 1543, that 64 is of order 257 there, that a seal is right by its key and with no other answer, and what two seals by one number tell. / What package key says, as plain functions: which numbers are secrets, which are of the group, the challenge, the public key, a seal, and what is wrong with one. / Contracts of package key's IsSecret, IsPublic, power and Public over this translation: what each returns, and that memory stays as it was. / Contracts of package key's challenge, Sign and Check over this translation: what each returns, and that memory that was there stays as it was. / Contracts of package key's Check and Hold over this translation: what each returns, and that memory that was there stays as it was. / Plain laws, over any program, on rows of records in memory, n cells each: one that can be read, one that the call itself made, and what append makes of the latter; how a slice of records among the arguments reads, opened. / Plain mathematics on certs: the last key of some and what is wrong with them, a cert that was made, certs that each one makes for the next, and that what is right goes on from its first part. / Plain mathematics on signed images: what is wrong with one that is made, and with one that is checked; that what is signed is right by its key, and with no other answer. / Contracts of package sign's Make and Check over this translation: what each returns, and that memory that was there stays as it was. / Plain mathematics on two slots: which is picked, what putting, starting and being good make of them; there is always just one that is good. / Plain mathematics on events: what is wrong with some, the bank they come to, that more go on from where fewer were, and which may change places. / Contracts of slices.IndexFunc and slices.ContainsFunc at a row of ints and any predicate that leaves what was there: whether any of them is so. / Contracts of package bank's Check, isMask and asked: what each returns, and that memory that was there stays as it was. / Contracts of package bank's Digest and Same: what each returns for every bank and every mask, and that memory that was there stays as it was.
-/
import Derived.Below
import Derived.WalkKit
import Derived.ProofKit
import Derived.OwnWalk
import Derived.Laws.AppendOwnNone
import Derived.Laws.BytesArg
import Derived.Laws.Rows
import Derived.Laws.BitsLemmas
import Derived.Lib.DecodeN
import Derived.Shelf.GgClosure.StringsIndexFunc
import Derived.Shelf.Strconv.AtoiErr
import Derived.Shelf.Strconv.Itoa3
import Derived.Shelf.Strings.Search3
import Derived.Shelf.Strconv.Clone
import Derived.Shelf.Bytes.SlIndexAt
import Derived.Shelf.Strings.Search2
import Derived.Shelf.GgClosure.StringsIndexFuncTop
import Derived.Test.YtgnpffkfbacejaaGreatDoorProg
import Derived.Test.YtgnpffkfbacejaaGreatDoorRows
import Derived.Handy
import Derived.Maps.AppendAt
import Derived.Lib.Atoi
import Derived.Lib.ItoaNum
import Derived.Lib.Split
import Derived.Lib.IndexBytes
import Derived.Shelf.Strconv.Atoi
import Derived.WalkSmall
import Derived.Lib.AtoiErrMem
import Derived.Deep.RegionHeld3
import Derived.Laws.Pointers
import Derived.Deep.WholeRow
import Derived.Laws.ResultCell
import Derived.Laws.CopyOwn
import Derived.Deep.DeepCutAuto
import Derived.Deep.QuietTactic
import Derived.BigQuiet
import Derived.OpenShut
import Derived.ChangeSame
import Derived.ChangeArms
import Derived.RowKit
import Derived.Deep.LoopGhost
import Derived.Shelf.Abstract
namespace Go.Proofs.YtgnpffkfbacejaaGreatDoor.M

theorem hide {p : Prop} (h : p) : Go.RowKit.Hid p := h

/-- One step of a measure. -/
def stp (t m n : Int) : Int := (t * m + n + 1) % 1000003
theorem stp_ge (t m n : Int) : 0 ≤ stp t m n := by unfold stp; omega
theorem stp_lt (t m n : Int) : stp t m n < 1000003 := by unfold stp; omega
theorem stp_inj (t m a b : Int) (ha : 0 ≤ a) (ha' : a < 1000003) (hb : 0 ≤ b) (hb' : b < 1000003) (h : stp t m a = stp t m b) : a = b := by
  unfold stp at h
  generalize t * m = q at h
  omega

/-- Is it a measure? -/
def isM (n : Int) : Bool := decide (0 ≤ n ∧ n < 1000003)
theorem isM_iff {n : Int} : isM n = true ↔ 0 ≤ n ∧ n < 1000003 := by unfold isM; simp
theorem isM_false {n : Int} : isM n = false ↔ ¬ (0 ≤ n ∧ n < 1000003) := by unfold isM; simp

/-- Are both measures? -/
def both (a b : Int) : Bool := isM a && isM b
theorem both_left {a b : Int} (h : isM a = true) : both a b = isM b := by unfold both; rw [h]; rfl
theorem both_no {a b : Int} (h : isM a = false) : both a b = false := by unfold both; rw [h]; rfl
theorem both_iff {a b : Int} : both a b = true ↔ isM a = true ∧ isM b = true := by unfold both; rw [Bool.and_eq_true]

/-- A row of numbers, step by step. -/
def allFrom (m : Int) (xs : List Int) : Int := xs.foldl (fun m x => stp 7919 m x) m
def okAll (xs : List Int) : Bool := xs.all isM
theorem take_one {α : Type} {xs : List α} {k : Nat} {x : α} (h : xs[k]? = some x) : xs.take (k + 1) = xs.take k ++ [x] := by
  rw [List.take_add_one, h]; rfl
theorem allFrom_take {m : Int} {xs : List Int} {k : Nat} {x : Int} (h : xs[k]? = some x) : allFrom m (xs.take (k + 1)) = stp 7919 (allFrom m (xs.take k)) x := by
  rw [take_one h]; simp [allFrom]
theorem allFrom_snoc (m : Int) (xs : List Int) (x : Int) : allFrom m (xs ++ [x]) = stp 7919 (allFrom m xs) x := by simp [allFrom]
theorem allFrom_range (m : Int) (xs : List Int) (h0 : 0 ≤ m) (h1 : m < 1000003) : 0 ≤ allFrom m xs ∧ allFrom m xs < 1000003 := by
  unfold allFrom
  induction xs generalizing m with
  | nil => exact ⟨h0, h1⟩
  | cons x r ih => exact ih (stp 7919 m x) (stp_ge _ _ _) (stp_lt _ _ _)
theorem okAll_of {xs : List Int} (h : ∀ (k : Nat) (x : Int), xs[k]? = some x → isM x = true) : okAll xs = true := by
  unfold okAll
  rw [List.all_eq_true]
  intro x hx
  obtain ⟨k, hk, e⟩ := List.mem_iff_getElem.1 hx
  exact h k x (by rw [List.getElem?_eq_getElem hk, e])
theorem okAll_at {xs : List Int} (h : okAll xs = true) {k : Nat} {x : Int} (hx : xs[k]? = some x) : isM x = true := by
  unfold okAll at h
  exact List.all_eq_true.1 h x (List.mem_of_getElem? hx)
theorem okAll_not {xs : List Int} {k : Nat} {x : Int} (hx : xs[k]? = some x) (hb : isM x = false) : okAll xs = false := by
  cases h : okAll xs with
  | false => rfl
  | true => rw [okAll_at h hx] at hb; cases hb
theorem okAll_snoc (xs : List Int) (x : Int) : okAll (xs ++ [x]) = (okAll xs && isM x) := by simp [okAll]

/-- A text, byte by byte. -/
def ofFrom (m : Int) (l : List UInt8) : Int := l.foldl (fun m c => stp 257 m c.toNat) m
theorem ofFrom_take {m : Int} {l : List UInt8} {k : Nat} {c : UInt8} (h : l[k]? = some c) : ofFrom m (l.take (k + 1)) = stp 257 (ofFrom m (l.take k)) c.toNat := by
  rw [take_one h]; simp [ofFrom]
theorem ofFrom_snoc (m : Int) (l : List UInt8) (c : UInt8) : ofFrom m (l ++ [c]) = stp 257 (ofFrom m l) c.toNat := by simp [ofFrom]
theorem ofFrom_range (m : Int) (l : List UInt8) (h0 : 0 ≤ m) (h1 : m < 1000003) : 0 ≤ ofFrom m l ∧ ofFrom m l < 1000003 := by
  unfold ofFrom
  induction l generalizing m with
  | nil => exact ⟨h0, h1⟩
  | cons x r ih => exact ih (stp 257 m x.toNat) (stp_ge _ _ _) (stp_lt _ _ _)
end Go.Proofs.YtgnpffkfbacejaaGreatDoor.M
namespace Go.Proofs.YtgnpffkfbacejaaGreatDoor.M
open Go.RowKit

/-- A slice of numbers that stand in memory: none at all, or a row of cells from one address on. -/
def Row (w : World) (a : Option Addr) (xs : List Int) : Prop :=
  xs = [] ∨ ∃ b off, a = some ⟨b, off, none⟩ ∧ ∀ (k : Nat) (x : Int), xs[k]? = some x → w.cell? ⟨b, off + k, none⟩ = some (.int .i64 x)

theorem add_none (b off k : Nat) : (⟨b, off, none⟩ : Addr).add k = ⟨b, off + k, none⟩ := by unfold Addr.add; split <;> simp_all

theorem Row.one (b : Nat) (n : Int) (w : World) (h : w.cell? ⟨b, 0, none⟩ = some (.int .i64 n)) : Row w (some ⟨b, 0, none⟩) [n] := by
  refine Or.inr ⟨b, 0, rfl, fun k x hx => ?_⟩
  cases k with
  | zero => simp at hx; subst hx; exact h
  | succ k => simp at hx
theorem Row.below {w w' : World} {a : Option Addr} {xs : List Int} (h : Row w a xs) (hb : Below w.heap.size w w') : Row w' a xs := by
  rcases h with h | ⟨b, off, ha, hc⟩
  · exact Or.inl h
  · refine Or.inr ⟨b, off, ha, fun k x hx => ?_⟩
    have h1 := hc k x hx
    rw [hb.cell (p := ⟨b, off + k, none⟩) (World.block_lt_of_cell? w _ h1)]
    exact h1

/-- An error value and its number: none is nought; else an error of type T that is an int. -/
def IsErr (T : TypeId) (v : Value) (k : Int) : Prop := (v = .nilIface ∧ k = 0) ∨ v = .iface T (.int .i64 k)
def errV (T : TypeId) (k : Int) : Value := if k = 0 then .nilIface else .iface T (.int .i64 k)
theorem isErr_errV (T : TypeId) (k : Int) : IsErr T (errV T k) k := by
  unfold errV
  by_cases h : k = 0
  · rw [if_pos h]; exact Or.inl ⟨rfl, h⟩
  · rw [if_neg h]; exact Or.inr rfl
theorem errV_zero (T : TypeId) : errV T 0 = .nilIface := rfl
theorem errV_one (T : TypeId) : errV T 1 = .iface T (.int .i64 1) := rfl

/-- The fault and the measure of a text, of two numbers, of a row. -/
def ofC (s : ByteArray) : Int := if 24 < s.size then 4 else 0
def ofV (s : ByteArray) : Int := if 24 < s.size then 0 else ofFrom 1 s.data.toList
def twoC (a b : Int) : Int := if isM a = true ∧ isM b = true then 0 else 1
def twoV (a b : Int) : Int := if isM a = true ∧ isM b = true then stp 7919 a b else 0
def allC (xs : List Int) : Int := if 30 < xs.length then 4 else if okAll xs = true then 0 else 1
def allV (xs : List Int) : Int := if 30 < xs.length then 0 else if okAll xs = true then allFrom 0 xs else 0
theorem twoC_ok {a b : Int} (ha : isM a = true) (hb : isM b = true) : twoC a b = 0 := if_pos ⟨ha, hb⟩
theorem twoV_ok {a b : Int} (ha : isM a = true) (hb : isM b = true) : twoV a b = stp 7919 a b := if_pos ⟨ha, hb⟩
theorem twoC_bad {a b : Int} (h : ¬ (isM a = true ∧ isM b = true)) : twoC a b = 1 := if_neg h
theorem twoV_bad {a b : Int} (h : ¬ (isM a = true ∧ isM b = true)) : twoV a b = 0 := if_neg h

/-- A row of ints that the call itself made. -/
def Own (w : World) (base : Nat) (e : TypeId) (v : Value) (xs : List Int) : Prop := w.ownsRow base e 1 v xs.length (xs.map (Value.int .i64))
theorem Own.nil (w : World) (base : Nat) (e : TypeId) : Own w base e (.slice none 0 0) [] := World.ownsRow_nil w base e 1
theorem Own.alloc {w : World} {base : Nat} {e : TypeId} {v : Value} {xs : List Int} (h : Own w base e v xs) (o : Obj) : Own (w.alloc o) base e v xs := World.ownsRow.alloc h o
theorem Own.row {w : World} {base : Nat} {e : TypeId} {v : Value} {xs : List Int} (h : Own w base e v xs) : ∃ a cap, v = .slice a xs.length cap ∧ (a = none → cap = 0) ∧ Row w a xs := by
  have h0 := h
  obtain ⟨_, h2⟩ := h
  rcases h2 with ⟨hv, hn⟩ | ⟨g, cap, cur, hv, _, _, _, _, _, _⟩
  · exact ⟨none, 0, by rw [hv, hn], fun _ => rfl, Or.inl (List.length_eq_zero_iff.1 hn)⟩
  · refine ⟨some ⟨g, 0, none⟩, cap, hv, fun hno => (by cases hno), Or.inr ⟨g, 0, rfl, fun k x hx => ?_⟩⟩
    have hc := World.ownsRow.cells (g := g) h0 (by rw [hv]; rfl) k (.int .i64 x) (by rw [List.getElem?_map, hx]; rfl)
    rw [add_none] at hc
    exact hc
theorem Own.block {w : World} {base : Nat} {e : TypeId} {v : Value} {xs : List Int} (h : Own w base e v xs) : ∀ k, v.ownBlock = some k → base ≤ k := fun k hk => (World.ownsRow.lt h k hk).1

/-- 'x = append(x, ys...)' where x is a row of ints of the call's own and ys can be read: a law for the walk. -/
theorem wpList_app {P : Program} {w : World} {ops : Array Oper} {rest : List Oper} {o : Oper} {a : Act} {Q : Exit → Act → World → Prop} (hgd : o.guard = none) (s x : Operand) (t : TypeId)
    (ho : o.op = .call { callee := .builtin .append, args := #[s, x], argTypes := #[t, t] })
    (base : Nat) (e : TypeId) (hinfo : (P.info? e).map (fun i => (i.zero, i.size, i.bytes)) = some (some (.int .i64 0), 1, 8)) (ht : P.underlying t = some (.slice e))
    (v : Value) (xs : List Int) (hs : a.eval s = v) (hown : Own w base e v xs)
    (ad : Option Addr) (m c : Nat) (ys : List Int) (hx : a.eval x = .slice ad m c) (hm : m = ys.length) (hc : ad = none → c = 0) (hrow : Row w ad ys)
    (hb : xs.length + ys.length ≤ 1000000) (hbase : base ≤ w.heap.size)
    (h : ∀ v' w', Own w' base e v' (xs ++ ys) → w.grownBy w' v.ownBlock → wpList P ops Q rest (a.put o.dst v') w') : wpList P ops Q (o :: rest) a w := by
  obtain ⟨i, hi, hz0, hz1, hz2⟩ := info_parts hinfo
  subst hm
  cases ad with
  | none =>
    have hy : ys = [] := by
      rcases hrow with h | ⟨b, off, h, _⟩
      · exact h
      · cases h
    subst hy
    rw [hc rfl] at hx
    refine wpList_append_own_none hgd s x t ho base e i 1 ht hi v xs.length _ hs hown hx (h v w (by simpa using hown) ⟨rfl, rfl, rfl, Nat.le_refl _, fun _ _ _ => rfl⟩)
  | some ad =>
    refine wpList_append_own w hgd s x t ho base e i (.int .i64 0) 1 8 ht hi hz0 hz1 hz2 rfl (by decide) v xs.length _ hs hown ad ys.length c (ys.map (Value.int .i64)) hx (by simp) ?_ ?_ (by unfold maxLen; omega) (by omega) hbase ?_
    · intro j u hj
      rw [List.getElem?_map] at hj
      obtain ⟨y, hy, rfl⟩ := Option.map_eq_some_iff.1 hj
      rcases hrow with h | ⟨b, off, h, hcell⟩
      · subst h; simp at hy
      · cases h
        rw [add_none]
        exact hcell j y hy
    · intro u hu
      obtain ⟨_, _, rfl⟩ := List.mem_map.1 hu
      rfl
    · intro v' w' h1 h2 _
      refine h v' w' ?_ h2
      have e1 : (xs ++ ys).length = xs.length + ys.length := by simp
      unfold Own
      rw [e1, List.map_append]
      exact h1

/-- string([]byte{c}). -/
theorem run_one_byte {P : Program} (src e dst : TypeId) (hs : P.underlying src = some (.slice e)) (he : P.underlying e = some (.int .u8)) (hd : P.underlying dst = some .string) (c : Int) (t : TypeId) (w : World) (b : Nat) (hb : w.heap.size = b) :
    (convert src dst (.slice (some ⟨b, 0, none⟩) 1 1)).run P (w.alloc (.cells #[.int .u8 c] t)) = .ok (.string (strOfNums [c])) (w.alloc (.cells #[.int .u8 c] t)) :=
  run_convert_bytes_arg _ src e hs he b 0 1 1 [c] rfl (fun i hi => by
    have : i = 0 := by omega
    subst this
    subst hb
    simp) dst hd
theorem app_one_size (s : ByteArray) (c : Int) : (s ++ strOfNums [c]).size = s.size + 1 := by
  rw [ByteArray.size_append, strOfNums_size]; rfl
theorem app_one_list (s : ByteArray) (c : Int) : (s ++ strOfNums [c]).data.toList = s.data.toList ++ [UInt8.ofNat c.toNat] := by
  rw [ByteArray.data_append, Array.toList_append, strOfNums_data]; rfl
theorem byte_back {c : Int} (h0 : 0 ≤ c) (h1 : c ≤ 255) : ((UInt8.ofNat c.toNat).toNat : Int) = c := by
  rw [UInt8.toNat_ofNat']
  omega
end Go.Proofs.YtgnpffkfbacejaaGreatDoor.M
namespace Go.Proofs.YtgnpffkfbacejaaGreatDoor.M
open Go.RowKit

theorem blk_lt {w : World} {b : Nat} {o : Obj} (h : w.heap[b]? = some o) : b < w.heap.size := (Array.getElem?_eq_some_iff.1 h).1
theorem blk_below {w w' : World} {b : Nat} {o : Obj} (h : w.heap[b]? = some o) (hb : Below w.heap.size w w') : w'.heap[b]? = some o := (hb.block b (blk_lt h)).trans h
theorem blk_keep {w : World} {b : Nat} {o : Obj} (h : w.heap[b]? = some o) (o' : Obj) : (w.alloc o').heap[b]? = some o := (Go.RowKit.Below.heap_alloc w o' b (blk_lt h)).trans h
theorem blk_new (w : World) (o : Obj) : (w.alloc o).heap[w.heap.size]? = some o := by
  show (w.heap.push o)[w.heap.size]? = some o
  exact Array.getElem?_push_size
theorem below_new (w : World) (o : Obj) : Below w.heap.size w (w.alloc o) := (Below.refl _ w).alloc (Nat.le_refl _) o
theorem below_on {w w1 w2 : World} (h : Below w.heap.size w w1) (h2 : Below w1.heap.size w1 w2) : Below w.heap.size w w2 := h.trans (h2.mono h.size)
theorem Row.three {w : World} {b : Nat} {p q m : Int} {t : TypeId} {fr : Nat × Nat} (h : w.heap[b]? = some (.cells #[.int .i64 p, .int .i64 q, .int .i64 m] t fr)) : Row w (some ⟨b, 0, none⟩) [p, q, m] := by
  refine Or.inr ⟨b, 0, rfl, fun k x hx => ?_⟩
  have hc : ∀ j, w.cell? ⟨b, j, none⟩ = (#[Value.int .i64 p, .int .i64 q, .int .i64 m])[j]? := fun j => by rw [cell_of_row w b _ _ t fr h]
  rw [Nat.zero_add, hc]
  match k with
  | 0 => simp at hx; subst hx; rfl
  | 1 => simp at hx; subst hx; rfl
  | 2 => simp at hx; subst hx; rfl
  | k + 3 => simp at hx
/-- The cells of a seal, laid in a block of its own. -/
def sealC (p a : Int) : Array Value := #[.int .i64 p, .int .i64 a]
theorem seal_cells {w : World} {b : Nat} {p a : Int} {t : TypeId} {fr : Nat × Nat} (h : w.heap[b]? = some (.cells #[.int .i64 p, .int .i64 a] t fr)) :
    w.cell? ⟨b, 0, none⟩ = some (.int .i64 p) ∧ w.cell? ⟨b, 1, none⟩ = some (.int .i64 a) := by
  refine ⟨?_, ?_⟩ <;> rw [cell_of_row w b _ _ t fr h] <;> rfl
theorem seal_free {w : World} {b : Nat} {c : Array Value} {t : TypeId} (h : w.heap[b]? = some (.cells c t)) :
    w.frozen? ⟨b, 0, none⟩ = false ∧ w.frozen? ⟨b, 1, none⟩ = false := ⟨frozen_of_row w b 0 _ _ h, frozen_of_row w b 1 _ _ h⟩
theorem two_set {w : World} {b : Nat} {a0 a1 x y : Value} {t : TypeId} {fr : Nat × Nat} (hg : w.heap[b]? = some (.cells #[a0, a1] t fr)) :
    (w.setCell ⟨b, 0, none⟩ x).setCell ⟨b, 1, none⟩ y = w.setRow b #[x, y] := by
  rw [setCell_eq_setRow w b 0 _ _ _ x hg]
  have h1 := setRow_heap w b _ (#[a0, a1].setIfInBounds 0 x) t fr hg
  rw [setCell_eq_setRow _ b 1 _ _ _ y h1, setRow_setRow]
  rfl
end Go.Proofs.YtgnpffkfbacejaaGreatDoor.M
namespace Go.Proofs.YtgnpffkfbacejaaGreatDoor.M
open Go.RowKit

/-- A bank's cells. -/
def bankC (xs : List Int) : Array Value := (xs.map (Value.int .i64)).toArray
theorem bankC_size (xs : List Int) : (bankC xs).size = xs.length := by simp [bankC]
theorem bankC_at {xs : List Int} {k : Nat} {x : Int} (h : xs[k]? = some x) : (bankC xs)[k]? = some (.int .i64 x) := by simp [bankC, h]
theorem bankC_set (xs : List Int) (k : Nat) (x : Int) : (bankC xs).setIfInBounds k (.int .i64 x) = bankC (xs.set k x) := by
  unfold bankC
  apply Array.ext'
  simp [List.map_set]
theorem bankC_inj {xs ys : List Int} (h : bankC xs = bankC ys) : xs = ys := by
  unfold bankC at h
  have h1 := congrArg Array.toList h
  simp only [] at h1
  exact (List.map_inj_right (fun a b e => by cases e; rfl)).1 h1

/-- Does a mask ask for a register? -/
def bit (m : Int) (k : Nat) : Bool := decide (m / 2 ^ k % 2 = 1)
theorem and_one (n : Int) : bits .and .i64 n 1 = n % 2 := by
  have h1 : (BitVec.ofInt 64 1).toNat = 2 ^ 1 - 1 := by decide
  have key : (BitVec.ofInt 64 n &&& BitVec.ofInt 64 1).toNat = (n % ((2 ^ 64 : Nat) : Int)).toNat % 2 ^ 1 := by
    rw [BitVec.toNat_and, BitVec.toNat_ofInt, h1, Nat.and_two_pow_sub_one_eq_mod]
  show IntKind.i64.wrap ((BitVec.ofInt 64 n &&& BitVec.ofInt 64 1).toNat : Nat) = n % 2
  rw [key, IntKind.wrap_i64]
  omega
theorem bit_yes {m : Int} {k : Nat} (h : bit m k = true) : bits .and .i64 (m / 2 ^ k) 1 = 1 := by
  rw [and_one]; unfold bit at h; simpa using h
theorem bit_no {m : Int} {k : Nat} (h : bit m k = false) : bits .and .i64 (m / 2 ^ k) 1 = 0 := by
  rw [and_one]; unfold bit at h
  have h1 : ¬ (m / 2 ^ k % 2 = 1) := by simpa using h
  generalize m / 2 ^ k = q at h1 ⊢
  omega
def isMask (m : Int) : Bool := decide (0 ≤ m ∧ m ≤ 255)
theorem isMask_iff {m : Int} : isMask m = true ↔ 0 ≤ m ∧ m ≤ 255 := by unfold isMask; simp
theorem isMask_false {m : Int} : isMask m = false ↔ ¬ (0 ≤ m ∧ m ≤ 255) := by unfold isMask; simp
/-- The registers that a mask asks for, below n. -/
def askedL (m : Int) (n : Nat) : List Int := ((List.range n).filter (bit m)).map fun k : Nat => (k : Int)
theorem askedL_zero (m : Int) : askedL m 0 = [] := rfl
theorem askedL_hit {m : Int} {n : Nat} (h : bit m n = true) : askedL m (n + 1) = askedL m n ++ [(n : Int)] := by simp [askedL, List.range_succ, h]
theorem askedL_miss {m : Int} {n : Nat} (h : bit m n = false) : askedL m (n + 1) = askedL m n := by simp [askedL, List.range_succ, h]
theorem askedL_len (m : Int) (n : Nat) : (askedL m n).length ≤ n := by
  unfold askedL
  rw [List.length_map]
  exact Nat.le_trans (List.length_filter_le _ _) (by simp)
theorem askedL_mem {m : Int} {n : Nat} {i : Int} (h : i ∈ askedL m n) : ∃ k : Nat, k < n ∧ i = k ∧ bit m k = true := by
  unfold askedL at h
  obtain ⟨k, hk, rfl⟩ := List.mem_map.1 h
  rw [List.mem_filter] at hk
  exact ⟨k, List.mem_range.1 hk.1, rfl, hk.2⟩
theorem askedL_of {m : Int} {n k : Nat} (hk : k < n) (h : bit m k = true) : (k : Int) ∈ askedL m n :=
  List.mem_map.2 ⟨k, List.mem_filter.2 ⟨List.mem_range.2 hk, h⟩, rfl⟩

/-- Those of a bank. -/
def pick (xs : List Int) (is : List Int) : List Int := is.map fun i => xs.getD i.toNat 0
theorem pick_take {xs is : List Int} {k : Nat} {i x : Int} (h : is[k]? = some i) (hx : xs[i.toNat]? = some x) : pick xs (is.take (k + 1)) = pick xs (is.take k) ++ [x] := by
  rw [take_one h]
  simp [pick, hx]
theorem pick_len (xs is : List Int) : (pick xs is).length = is.length := by simp [pick]
theorem pick_ok {xs : List Int} (h : okAll xs = true) (hl : xs.length = 8) (m : Int) : okAll (pick xs (askedL m 8)) = true := by
  refine okAll_of fun k x hx => ?_
  simp only [pick, List.getElem?_map, Option.map_eq_some_iff] at hx
  obtain ⟨i, hi, rfl⟩ := hx
  obtain ⟨j, hj, rfl, _⟩ := askedL_mem (List.mem_of_getElem? hi)
  have : xs[j]? = some (xs[j]'(by omega)) := List.getElem?_eq_getElem (by omega)
  simp only [Int.toNat_natCast, List.getD_eq_getElem?_getD, this, Option.getD_some]
  exact okAll_at h this

/-- A bank's fault; a digest's, and it; likeness. -/
def bankE (xs : List Int) : Int := if okAll xs = true then 0 else 1
def digE (xs : List Int) (m : Int) : Int := if okAll xs = true ∧ isMask m = true then 0 else 1
def digV (xs : List Int) (m : Int) : Int := if okAll xs = true ∧ isMask m = true then allFrom 0 (pick xs (askedL m 8)) else 0
def sameE (xs ys : List Int) (m : Int) : Int := if okAll xs = true ∧ okAll ys = true ∧ isMask m = true then 0 else 1
def differ (xs ys : List Int) (m : Int) : Bool := (askedL m 8).any fun i => xs.getD i.toNat 0 != ys.getD i.toNat 0
def sameV (xs ys : List Int) (m : Int) : Bool := if okAll xs = true ∧ okAll ys = true ∧ isMask m = true then !differ xs ys m else false
theorem bankE_ok {xs : List Int} (h : okAll xs = true) : bankE xs = 0 := if_pos h
theorem bankE_bad {xs : List Int} (h : okAll xs = false) : bankE xs = 1 := if_neg (by rw [h]; exact Bool.false_ne_true)
theorem digE_ok {xs : List Int} {m : Int} (h : okAll xs = true) (hm : isMask m = true) : digE xs m = 0 := if_pos ⟨h, hm⟩
theorem digV_ok {xs : List Int} {m : Int} (h : okAll xs = true) (hm : isMask m = true) : digV xs m = allFrom 0 (pick xs (askedL m 8)) := if_pos ⟨h, hm⟩
theorem digE_bad {xs : List Int} {m : Int} (h : ¬ (okAll xs = true ∧ isMask m = true)) : digE xs m = 1 := if_neg h
theorem digV_bad {xs : List Int} {m : Int} (h : ¬ (okAll xs = true ∧ isMask m = true)) : digV xs m = 0 := if_neg h
theorem sameE_ok {xs ys : List Int} {m : Int} (h : okAll xs = true) (h' : okAll ys = true) (hm : isMask m = true) : sameE xs ys m = 0 := if_pos ⟨h, h', hm⟩
theorem sameV_ok {xs ys : List Int} {m : Int} (h : okAll xs = true) (h' : okAll ys = true) (hm : isMask m = true) : sameV xs ys m = !differ xs ys m := if_pos ⟨h, h', hm⟩
theorem sameE_bad {xs ys : List Int} {m : Int} (h : ¬ (okAll xs = true ∧ okAll ys = true ∧ isMask m = true)) : sameE xs ys m = 1 := if_neg h
theorem sameV_bad {xs ys : List Int} {m : Int} (h : ¬ (okAll xs = true ∧ okAll ys = true ∧ isMask m = true)) : sameV xs ys m = false := if_neg h
/-- Extended: its fault, and the bank. -/
def isReg (i : Int) : Bool := decide (0 ≤ i ∧ i < 8)
theorem isReg_iff {i : Int} : isReg i = true ↔ 0 ≤ i ∧ i < 8 := by unfold isReg; simp
theorem isReg_false {i : Int} : isReg i = false ↔ ¬ (0 ≤ i ∧ i < 8) := by unfold isReg; simp
def extOk (xs : List Int) (i m : Int) : Bool := okAll xs && (isReg i && isM m)
theorem extOk_iff {xs : List Int} {i m : Int} : extOk xs i m = true ↔ okAll xs = true ∧ isReg i = true ∧ isM m = true := by unfold extOk; rw [Bool.and_eq_true, Bool.and_eq_true]
def extE (xs : List Int) (i m : Int) : Int := if extOk xs i m = true then 0 else 1
def noBank : List Int := [0, 0, 0, 0, 0, 0, 0, 0]
def extV (xs : List Int) (i m : Int) : List Int := if extOk xs i m = true then xs.set i.toNat (stp 7919 (xs.getD i.toNat 0) m) else noBank
theorem extE_ok {xs : List Int} {i m : Int} (h : extOk xs i m = true) : extE xs i m = 0 := if_pos h
theorem extV_ok {xs : List Int} {i m : Int} (h : extOk xs i m = true) : extV xs i m = xs.set i.toNat (stp 7919 (xs.getD i.toNat 0) m) := if_pos h
theorem extE_bad {xs : List Int} {i m : Int} (h : extOk xs i m = false) : extE xs i m = 1 := if_neg (by rw [h]; exact Bool.false_ne_true)
theorem extV_bad {xs : List Int} {i m : Int} (h : extOk xs i m = false) : extV xs i m = noBank := if_neg (by rw [h]; exact Bool.false_ne_true)
theorem extV_len {xs : List Int} (hl : xs.length = 8) (i m : Int) : (extV xs i m).length = 8 := by
  cases h : extOk xs i m with
  | true => rw [extV_ok h, List.length_set]; exact hl
  | false => rw [extV_bad h]; rfl

theorem any_bad (xs : List Int) : (xs.any fun x => !isM x) = !okAll xs := by
  unfold okAll
  induction xs with
  | nil => rfl
  | cons x r ih => simp only [List.any_cons, List.all_cons, ih]; cases isM x <;> simp

theorem heap_lt {w : World} {b : Nat} {o : Obj} (h : w.heap[b]? = some o) : b < w.heap.size := (Array.getElem?_eq_some_iff.1 h).1
/-- A bank that was laid in a block of its own. -/
theorem bank_cell {w : World} {b : Nat} {xs : List Int} {t : TypeId} {fr : Nat × Nat} (h : w.heap[b]? = some (.cells (bankC xs) t fr)) {k : Nat} {x : Int} (hx : xs[k]? = some x) : w.cell? ⟨b, k, none⟩ = some (.int .i64 x) := by
  rw [cell_of_row w b k _ t fr h]
  exact bankC_at hx
theorem bank_row {w : World} {b : Nat} {xs : List Int} {t : TypeId} {fr : Nat × Nat} (h : w.heap[b]? = some (.cells (bankC xs) t fr)) : Row w (some ⟨b, 0, none⟩) xs :=
  Or.inr ⟨b, 0, rfl, fun k x hx => by rw [Nat.zero_add]; exact bank_cell h hx⟩
end Go.Proofs.YtgnpffkfbacejaaGreatDoor.M
namespace Go.Proofs.YtgnpffkfbacejaaGreatDoor.M
open Go.RowKit

/-- Is a byte a letter from a to z? -/
def letB (b : UInt8) : Bool := decide (97 ≤ b.toNat ∧ b.toNat ≤ 122)
/-- Is a text of letters alone? -/
def letS (s : ByteArray) : Bool := s.data.toList.all letB
/-- A rune that is no letter. -/
def offR (r : Nat) : Bool := decide (r < 97) || decide (122 < r)
theorem offR_let (b : UInt8) : offR b.toNat = !letB b := by
  unfold offR letB
  by_cases h1 : b.toNat < 97
  · have : ¬ (97 ≤ b.toNat ∧ b.toNat ≤ 122) := by omega
    simp [h1, this]
  · by_cases h2 : 122 < b.toNat
    · have : ¬ (97 ≤ b.toNat ∧ b.toNat ≤ 122) := by omega
      simp [h1, h2, this]
    · have : 97 ≤ b.toNat ∧ b.toNat ≤ 122 := by omega
      simp [h1, h2, this]
theorem decodeN_high (n b0 b1 b2 b3 : Nat) (h : 128 ≤ b0) : 128 ≤ (Lib.decodeN n b0 b1 b2 b3).1 := by
  unfold Lib.decodeN
  rw [if_neg (by omega)]
  repeat' split
  all_goals (simp only []; omega)
theorem get_at {s : ByteArray} {i : Nat} {b : UInt8} (h : s.data.toList[i]? = some b) : s.get! i = b := by
  obtain ⟨d⟩ := s
  simp only [ByteArray.get!]
  rw [Array.getElem?_toList] at h
  simp [getElem!_def, h]
theorem decode_low {s : ByteArray} {i : Nat} {b : UInt8} (h : s.data.toList[i]? = some b) (hb : b.toNat < 128) : Utf8.decode s i = (b.toNat, 1) := by
  rw [Lib.decode_at, get_at h]
  unfold Lib.decodeN
  rw [if_pos hb]
theorem decode_high {s : ByteArray} {i : Nat} {b : UInt8} (h : s.data.toList[i]? = some b) (hb : ¬ b.toNat < 128) : 128 ≤ (Utf8.decode s i).1 := by
  rw [Lib.decode_at, get_at h]
  exact decodeN_high _ _ _ _ _ (by omega)
theorem len_size (s : ByteArray) : s.data.toList.length = s.size := Array.length_toList
theorem idx_from (s : ByteArray) : ∀ (f pos : Nat), s.size ≤ pos + f → decide (0 ≤ Lib.idxFuncFrom offR true s f pos) = !(s.data.toList.drop pos).all letB
  | 0, pos, h => by
    have e : s.data.toList.drop pos = [] := by
      apply List.drop_eq_nil_of_le
      have := len_size s
      omega
    rw [e]
    simp [Lib.idxFuncFrom]
  | f + 1, pos, h => by
    have hl := len_size s
    unfold Lib.idxFuncFrom
    by_cases hp : pos < s.size
    · obtain ⟨b, hb⟩ : ∃ b, s.data.toList[pos]? = some b := ⟨s.data.toList[pos]'(by omega), List.getElem?_eq_getElem (by omega)⟩
      have hd : s.data.toList.drop pos = b :: s.data.toList.drop (pos + 1) := by
        rw [List.drop_eq_getElem_cons (by omega)]
        congr 1
        rw [List.getElem?_eq_getElem (by omega)] at hb
        exact Option.some.inj hb
      rw [if_pos hp, hd, List.all_cons]
      by_cases h128 : b.toNat < 128
      · rw [decode_low hb h128]
        simp only []
        rw [offR_let]
        cases hB : letB b with
        | false => simp
        | true =>
          have := idx_from s f (pos + 1) (by omega)
          simp only [Bool.not_true, Bool.false_eq_true, if_false, Bool.true_and]
          exact this
      · have hh := decode_high hb h128
        have ho : offR (Utf8.decode s pos).1 = true := by unfold offR; simp; omega
        have hB : letB b = false := by unfold letB; simp; omega
        rw [if_pos ho, hB]
        simp
    · rw [if_neg hp]
      have e : s.data.toList.drop pos = [] := List.drop_eq_nil_of_le (by omega)
      rw [e]
      simp
theorem idx_letters (s : ByteArray) : decide (0 ≤ Lib.idxFunc offR true s) = !letS s := by
  unfold Lib.idxFunc letS
  rw [idx_from s s.size 0 (by omega), List.drop_zero]

/-- What is wrong with an image: the number of the error, 0 for none. -/
def imgE (nm : ByteArray) (v : Int) (cd : ByteArray) : Int :=
  if nm.size = 0 ∨ letS nm = false ∨ letS cd = false then 3 else if 8 < nm.size ∨ 8 < cd.size then 4 else if v < 1 ∨ 1000 < v then 1 else 0
theorem imgE_shape {nm cd : ByteArray} {v : Int} (h : nm.size = 0 ∨ letS nm = false ∨ letS cd = false) : imgE nm v cd = 3 := by unfold imgE; rw [if_pos h]
theorem imgE_full {nm cd : ByteArray} {v : Int} (h : ¬ nm.size = 0) (ha : letS nm = true) (hb : letS cd = true) (hf : 8 < nm.size ∨ 8 < cd.size) : imgE nm v cd = 4 := by
  unfold imgE; rw [if_neg (by simp [h, ha, hb]), if_pos hf]
theorem imgE_range {nm cd : ByteArray} {v : Int} (h : ¬ nm.size = 0) (ha : letS nm = true) (hb : letS cd = true) (hf : ¬ (8 < nm.size ∨ 8 < cd.size)) (hr : v < 1 ∨ 1000 < v) : imgE nm v cd = 1 := by
  unfold imgE; rw [if_neg (by simp [h, ha, hb]), if_neg hf, if_pos hr]
theorem imgE_none {nm cd : ByteArray} {v : Int} (h : ¬ nm.size = 0) (ha : letS nm = true) (hb : letS cd = true) (hf : ¬ (8 < nm.size ∨ 8 < cd.size)) (hr : ¬ (v < 1 ∨ 1000 < v)) : imgE nm v cd = 0 := by
  unfold imgE; rw [if_neg (by simp [h, ha, hb]), if_neg hf, if_neg hr]
theorem imgE_zero {nm cd : ByteArray} {v : Int} (h : imgE nm v cd = 0) : nm.size ≠ 0 ∧ letS nm = true ∧ letS cd = true ∧ nm.size ≤ 8 ∧ cd.size ≤ 8 ∧ 1 ≤ v ∧ v ≤ 1000 := by
  unfold imgE at h
  split at h
  · cases h
  · rename_i h1
    split at h
    · cases h
    · rename_i h2
      split at h
      · cases h
      · rename_i h3
        refine ⟨fun e => h1 (Or.inl e), ?_, ?_, by omega, by omega, by omega, by omega⟩
        · cases e : letS nm with
          | true => rfl
          | false => exact absurd (Or.inr (Or.inl e)) h1
        · cases e : letS cd with
          | true => rfl
          | false => exact absurd (Or.inr (Or.inr e)) h1
/-- The cells of an image. -/
def imgC (nm : ByteArray) (v : Int) (cd : ByteArray) : Array Value := #[.string nm, .int .i64 v, .string cd]
/-- An image that was laid in a block of its own. -/
theorem img_cells {w : World} {b : Nat} {nm cd : ByteArray} {v : Int} {t : TypeId} {fr : Nat × Nat} (h : w.heap[b]? = some (.cells (imgC nm v cd) t fr)) :
    w.cell? ⟨b, 0, none⟩ = some (.string nm) ∧ w.cell? ⟨b, 1, none⟩ = some (.int .i64 v) ∧ w.cell? ⟨b, 2, none⟩ = some (.string cd) := by
  refine ⟨?_, ?_, ?_⟩ <;> rw [cell_of_row w b _ _ t fr h] <;> rfl
/-- A version is from 1 to 1000. -/
def verB (v : Int) : Bool := decide (1 ≤ v ∧ v ≤ 1000)
theorem verB_is {v : Int} (h1 : 1 ≤ v) (h2 : v ≤ 1000) : verB v = true := decide_eq_true ⟨h1, h2⟩
theorem verB_not {v : Int} (h : v < 1 ∨ 1000 < v) : verB v = false := decide_eq_false (by omega)
theorem verB_yes {v : Int} (h : verB v = true) : 1 ≤ v ∧ v ≤ 1000 := of_decide_eq_true h
theorem verB_no {v : Int} (h : verB v = false) : v < 1 ∨ 1000 < v := by
  have := of_decide_eq_false h
  omega
end Go.Proofs.YtgnpffkfbacejaaGreatDoor.M
namespace Go.Proofs
open Go.Shelf
def Tryz.lays171_ren : Go.Shelf.Ren := ⟨fun | 171 => 47 | 243 => 70 | 246 => 95 | 283 => 116 | 284 => 117 | 285 => 118 | 286 => 119 | 129 => 128 | 317 => 127 | 318 => 129 | 319 => 130 | 320 => 131 | 337 => 137 | 338 => 138 | n => n, fun | 3 => 3 | 9 => 9 | 2 => 2 | 4 => 4 | 171 => 179 | 0 => 0 | 53 => 180 | 37 => 60 | 5 => 5 | 173 => 183 | 212 => 194 | 51 => 195 | 20 => 20 | 213 => 196 | 46 => 187 | 232 => 206 | 233 => 207 | n => n, fun | 17 => 4 | 18 => 5 | 19 => 6 | n => n⟩
theorem Tryz.lays171 : Go.Proofs.LaysM.n171 Tryz.prog Tryz.lays171_ren := {
  mixed := by kernel_rfl
  f129 := Tryz.func128.trans (congrArg some (by kernel_rfl))
  f171 := Tryz.func47.trans (congrArg some (by kernel_rfl))
  f243 := Tryz.func70.trans (congrArg some (by kernel_rfl))
  f246 := Tryz.func95.trans (congrArg some (by kernel_rfl))
  f283 := Tryz.func116.trans (congrArg some (by kernel_rfl))
  f284 := Tryz.func117.trans (congrArg some (by kernel_rfl))
  f285 := Tryz.func118.trans (congrArg some (by kernel_rfl))
  f286 := Tryz.func119.trans (congrArg some (by kernel_rfl))
  f317 := Tryz.func127.trans (congrArg some (by kernel_rfl))
  f318 := Tryz.func129.trans (congrArg some (by kernel_rfl))
  f319 := Tryz.func130.trans (congrArg some (by kernel_rfl))
  f320 := Tryz.func131.trans (congrArg some (by kernel_rfl))
  f337 := Tryz.func137.trans (congrArg some (by kernel_rfl))
  f338 := Tryz.func138.trans (congrArg some (by kernel_rfl))
  t0 := Tryz.underlying0
  a0 := Tryz.isAgg0
  z0 := Tryz.sizeOf0
  v0 := Tryz.zeroValue0
  t2 := Tryz.underlying2
  a2 := Tryz.isAgg2
  z2 := Tryz.sizeOf2
  v2 := Tryz.zeroValue2
  t3 := Tryz.underlying3
  a3 := Tryz.isAgg3
  z3 := Tryz.sizeOf3
  v3 := Tryz.zeroValue3
  t4 := Tryz.underlying4
  a4 := Tryz.isAgg4
  z4 := Tryz.sizeOf4
  v4 := Tryz.zeroValue4
  t5 := Tryz.underlying5
  a5 := Tryz.isAgg5
  z5 := Tryz.sizeOf5
  v5 := Tryz.zeroValue5
  t9 := Tryz.underlying9
  a9 := Tryz.isAgg9
  z9 := Tryz.sizeOf9
  v9 := Tryz.zeroValue9
  t20 := Tryz.underlying20
  a20 := Tryz.isAgg20
  z20 := Tryz.sizeOf20
  v20 := Tryz.zeroValue20
  t37 := Tryz.underlying60
  a37 := Tryz.isAgg60
  z37 := Tryz.sizeOf60
  v37 := Tryz.zeroValue60
  t46 := Tryz.underlying187
  a46 := Tryz.isAgg187
  z46 := Tryz.sizeOf187
  v46 := Tryz.zeroValue187
  t51 := Tryz.underlying195
  a51 := Tryz.isAgg195
  z51 := Tryz.sizeOf195
  v51 := Tryz.zeroValue195
  t53 := Tryz.underlying180
  a53 := Tryz.isAgg180
  z53 := Tryz.sizeOf180
  v53 := Tryz.zeroValue180
  t171 := Tryz.underlying179
  a171 := Tryz.isAgg179
  z171 := Tryz.sizeOf179
  v171 := Tryz.zeroValue179
  t173 := Tryz.underlying183
  a173 := Tryz.isAgg183
  z173 := Tryz.sizeOf183
  v173 := Tryz.zeroValue183
  t212 := Tryz.underlying194
  a212 := Tryz.isAgg194
  z212 := Tryz.sizeOf194
  v212 := Tryz.zeroValue194
  t213 := Tryz.underlying196
  a213 := Tryz.isAgg196
  z213 := Tryz.sizeOf196
  t232 := Tryz.underlying206
  a232 := Tryz.isAgg206
  z232 := Tryz.sizeOf206
  v232 := Tryz.zeroValue206
  t233 := Tryz.underlying207
  a233 := Tryz.isAgg207
  z233 := Tryz.sizeOf207
  v233 := Tryz.zeroValue207
  g17 := by kernel_rfl
  g18 := by kernel_rfl
  g19 := by kernel_rfl
  i0 := by kernel_rfl
  i2 := by kernel_rfl
  i3 := by kernel_rfl
  i4 := by kernel_rfl
  i5 := by kernel_rfl
  i9 := by kernel_rfl
  i20 := by kernel_rfl
  i37 := by kernel_rfl
  i46 := by kernel_rfl
  i51 := by kernel_rfl
  i53 := by kernel_rfl
  i171 := by kernel_rfl
  i173 := by kernel_rfl
  i212 := by kernel_rfl
  i232 := by kernel_rfl
  i233 := by kernel_rfl
  m17 := by kernel_rfl
  m18 := by kernel_rfl
  m19 := by kernel_rfl }
def Tryz.lays172_ren : Go.Shelf.Ren := ⟨fun | 172 => 52 | 244 => 74 | 245 => 75 | 247 => 97 | 279 => 98 | 280 => 99 | 281 => 100 | 282 => 101 | 287 => 124 | 316 => 71 | 171 => 47 | 205 => 125 | 321 => 134 | 322 => 135 | 243 => 70 | 246 => 95 | 283 => 116 | 284 => 117 | 285 => 118 | 286 => 119 | 129 => 128 | 317 => 127 | 318 => 129 | 319 => 130 | 320 => 131 | 337 => 137 | 338 => 138 | n => n, fun | 9 => 9 | 3 => 3 | 75 => 27 | 76 => 32 | 4 => 4 | 5 => 5 | 167 => 152 | 37 => 60 | 0 => 0 | 85 => 153 | 2 => 2 | 168 => 155 | 53 => 180 | 175 => 188 | 46 => 187 | 210 => 191 | 127 => 150 | 145 => 203 | 143 => 201 | 21 => 21 | 171 => 179 | 173 => 183 | 212 => 194 | 51 => 195 | 20 => 20 | 213 => 196 | 232 => 206 | 233 => 207 | 80 => 208 | n => n, fun | 15 => 2 | 16 => 3 | 17 => 4 | 18 => 5 | 19 => 6 | n => n⟩
theorem Tryz.lays172 : Go.Proofs.LaysC.n172 Tryz.prog Tryz.lays172_ren := {
  mixed := by kernel_rfl
  f129 := Tryz.func128.trans (congrArg some (by kernel_rfl))
  f171 := Tryz.func47.trans (congrArg some (by kernel_rfl))
  f172 := Tryz.func52.trans (congrArg some (by kernel_rfl))
  f205 := Tryz.func125.trans (congrArg some (by kernel_rfl))
  f243 := Tryz.func70.trans (congrArg some (by kernel_rfl))
  f244 := Tryz.func74.trans (congrArg some (by kernel_rfl))
  f245 := Tryz.func75.trans (congrArg some (by kernel_rfl))
  f246 := Tryz.func95.trans (congrArg some (by kernel_rfl))
  f247 := Tryz.func97.trans (congrArg some (by kernel_rfl))
  f279 := Tryz.func98.trans (congrArg some (by kernel_rfl))
  f280 := Tryz.func99.trans (congrArg some (by kernel_rfl))
  f281 := Tryz.func100.trans (congrArg some (by kernel_rfl))
  f282 := Tryz.func101.trans (congrArg some (by kernel_rfl))
  f283 := Tryz.func116.trans (congrArg some (by kernel_rfl))
  f284 := Tryz.func117.trans (congrArg some (by kernel_rfl))
  f285 := Tryz.func118.trans (congrArg some (by kernel_rfl))
  f286 := Tryz.func119.trans (congrArg some (by kernel_rfl))
  f287 := Tryz.func124.trans (congrArg some (by kernel_rfl))
  f316 := Tryz.func71.trans (congrArg some (by kernel_rfl))
  f317 := Tryz.func127.trans (congrArg some (by kernel_rfl))
  f318 := Tryz.func129.trans (congrArg some (by kernel_rfl))
  f319 := Tryz.func130.trans (congrArg some (by kernel_rfl))
  f320 := Tryz.func131.trans (congrArg some (by kernel_rfl))
  f321 := Tryz.func134.trans (congrArg some (by kernel_rfl))
  f322 := Tryz.func135.trans (congrArg some (by kernel_rfl))
  f337 := Tryz.func137.trans (congrArg some (by kernel_rfl))
  f338 := Tryz.func138.trans (congrArg some (by kernel_rfl))
  t0 := Tryz.underlying0
  a0 := Tryz.isAgg0
  z0 := Tryz.sizeOf0
  v0 := Tryz.zeroValue0
  t2 := Tryz.underlying2
  a2 := Tryz.isAgg2
  z2 := Tryz.sizeOf2
  v2 := Tryz.zeroValue2
  t3 := Tryz.underlying3
  a3 := Tryz.isAgg3
  z3 := Tryz.sizeOf3
  v3 := Tryz.zeroValue3
  t4 := Tryz.underlying4
  a4 := Tryz.isAgg4
  z4 := Tryz.sizeOf4
  v4 := Tryz.zeroValue4
  t5 := Tryz.underlying5
  a5 := Tryz.isAgg5
  z5 := Tryz.sizeOf5
  v5 := Tryz.zeroValue5
  t9 := Tryz.underlying9
  a9 := Tryz.isAgg9
  z9 := Tryz.sizeOf9
  v9 := Tryz.zeroValue9
  t20 := Tryz.underlying20
  a20 := Tryz.isAgg20
  z20 := Tryz.sizeOf20
  v20 := Tryz.zeroValue20
  t21 := Tryz.underlying21
  a21 := Tryz.isAgg21
  z21 := Tryz.sizeOf21
  v21 := Tryz.zeroValue21
  t37 := Tryz.underlying60
  a37 := Tryz.isAgg60
  z37 := Tryz.sizeOf60
  v37 := Tryz.zeroValue60
  t46 := Tryz.underlying187
  a46 := Tryz.isAgg187
  z46 := Tryz.sizeOf187
  v46 := Tryz.zeroValue187
  t51 := Tryz.underlying195
  a51 := Tryz.isAgg195
  z51 := Tryz.sizeOf195
  v51 := Tryz.zeroValue195
  t53 := Tryz.underlying180
  a53 := Tryz.isAgg180
  z53 := Tryz.sizeOf180
  v53 := Tryz.zeroValue180
  t75 := Tryz.underlying27
  a75 := Tryz.isAgg27
  z75 := Tryz.sizeOf27
  v75 := Tryz.zeroValue27
  t76 := Tryz.underlying32
  a76 := Tryz.isAgg32
  z76 := Tryz.sizeOf32
  v76 := Tryz.zeroValue32
  t85 := Tryz.underlying153
  a85 := Tryz.isAgg153
  z85 := Tryz.sizeOf153
  v85 := Tryz.zeroValue153
  t127 := Tryz.underlying150
  a127 := Tryz.isAgg150
  z127 := Tryz.sizeOf150
  v127 := Tryz.zeroValue150
  t143 := Tryz.underlying201
  a143 := Tryz.isAgg201
  z143 := Tryz.sizeOf201
  v143 := Tryz.zeroValue201
  t145 := Tryz.underlying203
  a145 := Tryz.isAgg203
  z145 := Tryz.sizeOf203
  v145 := Tryz.zeroValue203
  t167 := Tryz.underlying152
  a167 := Tryz.isAgg152
  z167 := Tryz.sizeOf152
  v167 := Tryz.zeroValue152
  t168 := Tryz.underlying155
  a168 := Tryz.isAgg155
  z168 := Tryz.sizeOf155
  v168 := Tryz.zeroValue155
  t171 := Tryz.underlying179
  a171 := Tryz.isAgg179
  z171 := Tryz.sizeOf179
  v171 := Tryz.zeroValue179
  t173 := Tryz.underlying183
  a173 := Tryz.isAgg183
  z173 := Tryz.sizeOf183
  v173 := Tryz.zeroValue183
  t175 := Tryz.underlying188
  a175 := Tryz.isAgg188
  z175 := Tryz.sizeOf188
  v175 := Tryz.zeroValue188
  t210 := Tryz.underlying191
  a210 := Tryz.isAgg191
  z210 := Tryz.sizeOf191
  v210 := Tryz.zeroValue191
  t212 := Tryz.underlying194
  a212 := Tryz.isAgg194
  z212 := Tryz.sizeOf194
  v212 := Tryz.zeroValue194
  t213 := Tryz.underlying196
  a213 := Tryz.isAgg196
  z213 := Tryz.sizeOf196
  t232 := Tryz.underlying206
  a232 := Tryz.isAgg206
  z232 := Tryz.sizeOf206
  v232 := Tryz.zeroValue206
  t233 := Tryz.underlying207
  a233 := Tryz.isAgg207
  z233 := Tryz.sizeOf207
  v233 := Tryz.zeroValue207
  g15 := by kernel_rfl
  g16 := by kernel_rfl
  g17 := by kernel_rfl
  g18 := by kernel_rfl
  g19 := by kernel_rfl
  t80 := Tryz.underlying208
  a80 := Tryz.isAgg208
  z80 := Tryz.sizeOf208
  v80 := Tryz.zeroValue208
  i0 := by kernel_rfl
  i2 := by kernel_rfl
  i3 := by kernel_rfl
  i4 := by kernel_rfl
  i5 := by kernel_rfl
  i9 := by kernel_rfl
  i20 := by kernel_rfl
  i21 := by kernel_rfl
  i37 := by kernel_rfl
  i46 := by kernel_rfl
  i51 := by kernel_rfl
  i53 := by kernel_rfl
  i75 := by kernel_rfl
  i76 := by kernel_rfl
  i80 := by kernel_rfl
  i85 := by kernel_rfl
  i127 := by kernel_rfl
  i143 := by kernel_rfl
  i145 := by kernel_rfl
  i167 := by kernel_rfl
  i168 := by kernel_rfl
  i171 := by kernel_rfl
  i173 := by kernel_rfl
  i175 := by kernel_rfl
  i210 := by kernel_rfl
  i212 := by kernel_rfl
  i232 := by kernel_rfl
  i233 := by kernel_rfl
  m15 := by kernel_rfl
  m16 := by kernel_rfl
  m17 := by kernel_rfl
  m18 := by kernel_rfl
  m19 := by kernel_rfl
  c0 := by kernel_rfl
  c2 := by kernel_rfl
  c3 := by kernel_rfl
  c4 := by kernel_rfl
  c5 := by kernel_rfl
  c9 := by kernel_rfl
  c20 := by kernel_rfl
  c21 := by kernel_rfl
  c37 := by kernel_rfl
  c46 := by kernel_rfl
  c51 := by kernel_rfl
  c53 := by kernel_rfl
  c75 := by kernel_rfl
  c76 := by kernel_rfl
  c80 := by kernel_rfl
  c85 := by kernel_rfl
  c127 := by kernel_rfl
  c143 := by kernel_rfl
  c145 := by kernel_rfl
  c167 := by kernel_rfl
  c168 := by kernel_rfl
  c171 := by kernel_rfl
  c173 := by kernel_rfl
  c175 := by kernel_rfl
  c210 := by kernel_rfl
  c212 := by kernel_rfl
  c213 := by kernel_rfl
  c232 := by kernel_rfl
  c233 := by kernel_rfl }
def Tryz.lays316_ren : Go.Shelf.Ren := ⟨fun | 316 => 71 | n => n, fun | 9 => 9 | 3 => 3 | 4 => 4 | 37 => 60 | 0 => 0 | 127 => 150 | 5 => 5 | n => n, fun | n => n⟩
theorem Tryz.lays316 : Go.Proofs.LaysM.n316 Tryz.prog Tryz.lays316_ren := {
  mixed := by kernel_rfl
  f316 := Tryz.func71.trans (congrArg some (by kernel_rfl))
  t0 := Tryz.underlying0
  a0 := Tryz.isAgg0
  z0 := Tryz.sizeOf0
  v0 := Tryz.zeroValue0
  t3 := Tryz.underlying3
  a3 := Tryz.isAgg3
  z3 := Tryz.sizeOf3
  v3 := Tryz.zeroValue3
  t4 := Tryz.underlying4
  a4 := Tryz.isAgg4
  z4 := Tryz.sizeOf4
  v4 := Tryz.zeroValue4
  t9 := Tryz.underlying9
  a9 := Tryz.isAgg9
  z9 := Tryz.sizeOf9
  v9 := Tryz.zeroValue9
  t37 := Tryz.underlying60
  a37 := Tryz.isAgg60
  z37 := Tryz.sizeOf60
  v37 := Tryz.zeroValue60
  t127 := Tryz.underlying150
  a127 := Tryz.isAgg150
  z127 := Tryz.sizeOf150
  v127 := Tryz.zeroValue150
  t5 := Tryz.underlying5
  a5 := Tryz.isAgg5
  z5 := Tryz.sizeOf5
  v5 := Tryz.zeroValue5
  i0 := by kernel_rfl
  i3 := by kernel_rfl
  i4 := by kernel_rfl
  i5 := by kernel_rfl
  i9 := by kernel_rfl
  i37 := by kernel_rfl
  i127 := by kernel_rfl }
def Tryz.lays17_ren : Go.Shelf.Ren := ⟨fun | 17 => 102 | 15 => 126 | 20 => 136 | n => n, fun | 9 => 9 | 23 => 159 | 4 => 4 | 3 => 3 | 0 => 0 | 21 => 21 | n => n, fun | n => n⟩
theorem Tryz.lays17 : Go.Proofs.LaysGw.n17 Tryz.prog Tryz.lays17_ren := {
  mixed := by kernel_rfl
  f15 := Tryz.func126.trans (congrArg some (by kernel_rfl))
  f17 := Tryz.func102.trans (congrArg some (by kernel_rfl))
  f20 := Tryz.func136.trans (congrArg some (by kernel_rfl))
  t0 := Tryz.underlying0
  a0 := Tryz.isAgg0
  z0 := Tryz.sizeOf0
  v0 := Tryz.zeroValue0
  i0 := by kernel_rfl
  t3 := Tryz.underlying3
  a3 := Tryz.isAgg3
  z3 := Tryz.sizeOf3
  v3 := Tryz.zeroValue3
  i3 := by kernel_rfl
  t4 := Tryz.underlying4
  a4 := Tryz.isAgg4
  z4 := Tryz.sizeOf4
  v4 := Tryz.zeroValue4
  i4 := by kernel_rfl
  t9 := Tryz.underlying9
  a9 := Tryz.isAgg9
  z9 := Tryz.sizeOf9
  v9 := Tryz.zeroValue9
  i9 := by kernel_rfl
  t21 := Tryz.underlying21
  a21 := Tryz.isAgg21
  z21 := Tryz.sizeOf21
  v21 := Tryz.zeroValue21
  i21 := by kernel_rfl
  t23 := Tryz.underlying159
  a23 := Tryz.isAgg159
  z23 := Tryz.sizeOf159
  v23 := Tryz.zeroValue159
  i23 := by kernel_rfl }
def Tryz.lays187_ren : Go.Shelf.Ren := ⟨fun | 187 => 50 | 255 => 72 | n => n, fun | 37 => 60 | 5 => 5 | 3 => 3 | n => n, fun | n => n⟩
theorem Tryz.lays187 : Go.Proofs.Lays.n187 Tryz.prog Tryz.lays187_ren := {
  mixed := by kernel_rfl
  f187 := Tryz.func50.trans (congrArg some (by kernel_rfl))
  f255 := Tryz.func72.trans (congrArg some (by kernel_rfl))
  t3 := Tryz.underlying3
  a3 := Tryz.isAgg3
  z3 := Tryz.sizeOf3
  v3 := Tryz.zeroValue3
  t5 := Tryz.underlying5
  a5 := Tryz.isAgg5
  z5 := Tryz.sizeOf5
  v5 := Tryz.zeroValue5
  t37 := Tryz.underlying60
  a37 := Tryz.isAgg60
  z37 := Tryz.sizeOf60
  v37 := Tryz.zeroValue60 }
def Tryz.lays219_ren : Go.Shelf.Ren := ⟨fun | 219 => 96 | 217 => 120 | 225 => 121 | 224 => 122 | 267 => 123 | 266 => 132 | 314 => 133 | n => n, fun | 9 => 9 | 3 => 3 | 4 => 4 | 5 => 5 | 46 => 187 | 146 => 198 | 51 => 195 | n => n, fun | 1 => 1 | n => n⟩
theorem Tryz.lays219 : Go.Proofs.Lays.n219 Tryz.prog Tryz.lays219_ren := {
  mixed := by kernel_rfl
  f217 := Tryz.func120.trans (congrArg some (by kernel_rfl))
  f219 := Tryz.func96.trans (congrArg some (by kernel_rfl))
  f224 := Tryz.func122.trans (congrArg some (by kernel_rfl))
  f225 := Tryz.func121.trans (congrArg some (by kernel_rfl))
  f266 := Tryz.func132.trans (congrArg some (by kernel_rfl))
  f267 := Tryz.func123.trans (congrArg some (by kernel_rfl))
  f314 := Tryz.func133.trans (congrArg some (by kernel_rfl))
  t3 := Tryz.underlying3
  a3 := Tryz.isAgg3
  z3 := Tryz.sizeOf3
  v3 := Tryz.zeroValue3
  t4 := Tryz.underlying4
  a4 := Tryz.isAgg4
  z4 := Tryz.sizeOf4
  v4 := Tryz.zeroValue4
  t5 := Tryz.underlying5
  a5 := Tryz.isAgg5
  z5 := Tryz.sizeOf5
  v5 := Tryz.zeroValue5
  t9 := Tryz.underlying9
  a9 := Tryz.isAgg9
  z9 := Tryz.sizeOf9
  v9 := Tryz.zeroValue9
  t46 := Tryz.underlying187
  a46 := Tryz.isAgg187
  z46 := Tryz.sizeOf187
  v46 := Tryz.zeroValue187
  t51 := Tryz.underlying195
  a51 := Tryz.isAgg195
  z51 := Tryz.sizeOf195
  v51 := Tryz.zeroValue195
  t146 := Tryz.underlying198
  a146 := Tryz.isAgg198
  z146 := Tryz.sizeOf198
  v146 := Tryz.zeroValue198
  g1 := by kernel_rfl }
end Go.Proofs
namespace Go.Proofs.YtgnpffkfbacejaaGreatDoor.Measure
open Go.ChangeShapes Go.WideShapes Go.ChangeAt Go.RowKit
open Go.Proofs.YtgnpffkfbacejaaGreatDoor.M
set_option linter.unusedVariables false

theorem ret_pair {a b : Int} {v : Value} (h : a = b) : Ending.returned (.tuple #[.int .i64 a, v]) = .returned (.tuple #[.int .i64 b, v]) := by rw [h]

theorem step_any (m t n : Int) (w : World) (hm0 : 0 ≤ m) (hm1 : m < 1000003) (ht0 : 0 ≤ t) (ht1 : t < 10000) (hn0 : 0 ≤ n) (hn1 : n < 1000003) :
    Calls Tryz.prog 108 #[.int .i64 m, .int .i64 t, .int .i64 n] w fun e w' => e = .returned (.int .i64 (stp t m n)) ∧ w' = w := by
  have hp0 : 0 ≤ t * m := Int.mul_nonneg ht0 hm0
  have hp1 : t * m ≤ 10000 * 1000003 := Int.mul_le_mul (by omega) (by omega) hm0 (by omega)
  go_enter Tryz.func108, Tryz.ntmps108
  go_wp2
  go_ret
  exact ⟨rfl, rfl⟩

theorem is_any (n : Int) (w : World) :
    Calls Tryz.prog 64 #[.int .i64 n] w fun e w' => e = .returned (.bool (isM n)) ∧ w' = w := by
  by_cases h0 : 0 ≤ n
  · by_cases h1 : n < 1000003
    · rw [isM_iff.2 ⟨h0, h1⟩]
      go_enter Tryz.func64, Tryz.ntmps64
      go_wp2
      go_ret
      exact ⟨rfl, rfl⟩
    · rw [isM_false.2 (by omega)]
      go_enter Tryz.func64, Tryz.ntmps64
      go_wp2
      go_ret
      exact ⟨rfl, rfl⟩
  · rw [isM_false.2 (by omega)]
    go_enter Tryz.func64, Tryz.ntmps64
    go_wp2
    go_ret
    exact ⟨rfl, rfl⟩

theorem two_ok (a b : Int) (w : World) (ha : isM a = true) (hb : isM b = true) :
    Calls Tryz.prog 90 #[.int .i64 a, .int .i64 b] w fun e w' => e = .returned (.tuple #[.int .i64 (stp 7919 a b), .nilIface]) ∧ w' = w := by
  have h1 := isM_iff.1 ha
  have h2 := isM_iff.1 hb
  obtain ⟨a0, a1⟩ := h1
  obtain ⟨b0, b1⟩ := h2
  go_enter Tryz.func90, Tryz.ntmps90
  go_wp2_with (first | (go_at_call 64; refine (is_any _ _).mono ?_; rintro e w' ⟨rfl, rfl⟩) | (go_at_call 108; refine (step_any _ _ _ _ (by omega) (by omega) (by omega) (by omega) (by omega) (by omega)).mono ?_; rintro e w' ⟨rfl, rfl⟩))
  go_ret2
  exact ⟨rfl, rfl⟩

theorem two_bad (a b : Int) (w : World) (h : isM a = false ∨ isM b = false) :
    Calls Tryz.prog 90 #[.int .i64 a, .int .i64 b] w fun e w' => e = .returned (.tuple #[.int .i64 0, .iface 63 (.int .i64 1)]) ∧ w' = w := by
  cases ha : isM a with
  | false =>
    go_enter Tryz.func90, Tryz.ntmps90
    go_wp2_with (go_at_call 64; refine (is_any _ _).mono ?_; rintro e w' ⟨rfl, rfl⟩)
    go_ret2
    exact ⟨rfl, rfl⟩
  | true =>
    have hb : isM b = false := by rcases h with h | h; · rw [h] at ha; cases ha
                                  · exact h
    go_enter Tryz.func90, Tryz.ntmps90
    go_wp2_with (go_at_call 64; refine (is_any _ _).mono ?_; rintro e w' ⟨rfl, rfl⟩)
    go_ret2
    exact ⟨rfl, rfl⟩

theorem row_full (a : Option Addr) (n cap : Nat) (w : World) (hn : 30 < n) (hm : n ≤ maxLen) :
    Calls Tryz.prog 86 #[.slice a n cap] w fun e w' => e = .returned (.tuple #[.int .i64 0, .iface 63 (.int .i64 4)]) ∧ w' = w := by
  unfold maxLen at hm
  go_enter Tryz.func86, Tryz.ntmps86
  go_wp2
  go_ret2
  exact ⟨rfl, rfl⟩

set_option maxHeartbeats 400000 in
theorem row_le (a : Option Addr) (xs : List Int) (n cap : Nat) (w : World) (hn : n = xs.length) (hl : n ≤ 30) (hr : Row w a xs) :
    Calls Tryz.prog 86 #[.slice a n cap] w fun e w' =>
      ((okAll xs = true ∧ e = .returned (.tuple #[.int .i64 (allFrom 0 xs), .nilIface])) ∨ (okAll xs = false ∧ e = .returned (.tuple #[.int .i64 0, .iface 63 (.int .i64 1)]))) ∧ w' = w := by
  have hlen : ∀ k, k < n → ∃ x, xs[k]? = some x := fun k hk => ⟨xs[k]'(by omega), List.getElem?_eq_getElem (by omega)⟩
  have HL : Hid (∀ k, k < n → ∃ x, xs[k]? = some x) := hlen
  have HN : Hid (n = xs.length) := hn
  have HR : Hid (Row w a xs) := hr
  clear hlen hn hr
  go_enter Tryz.func86, Tryz.ntmps86
  go_wp2
  go_loop [4, 15] (fun m i => ∃ k : Nat, k ≤ n ∧ i = .int .i64 k ∧ m = .int .i64 (allFrom 0 (xs.take k)) ∧ ∀ (j : Nat) (x : Int), j < k → xs[j]? = some x → isM x = true) (fun _ i => n - (intOf i).toNat)
  case atStart => exact ⟨0, by omega, rfl, rfl, fun j x h => by omega⟩
  case round =>
    obtain ⟨k, hk, rfl, rfl, hall⟩ := hrel
    have HA : Hid (∀ (j : Nat) (x : Int), j < k → xs[j]? = some x → isM x = true) := hall
    clear hall
    have hrg := allFrom_range 0 (xs.take k) (by omega) (by omega)
    obtain ⟨hr0, hr1⟩ := hrg
    by_cases hlt : k < n
    · obtain ⟨x, hx⟩ := HL.out k hlt
      have HX : Hid (xs[k]? = some x) := hx
      clear hx
      have hrow : ∃ b off, a = some ⟨b, off, none⟩ ∧ w.cell? ⟨b, off + k, none⟩ = some (.int .i64 x) := by
        rcases HR.out with h | ⟨b, off, h1, h2⟩
        · have := HX.out; rw [h] at this; simp at this
        · exact ⟨b, off, h1, h2 k x HX.out⟩
      obtain ⟨b, off, rfl, hc⟩ := hrow
      cases hmx : isM x with
      | true =>
        go_wp2_with (go_at_call 90; refine (two_ok _ _ _ (isM_iff.2 ⟨by assumption, by assumption⟩) (by assumption)).mono ?_; rintro e w' ⟨rfl, rfl⟩)
        go_round
        case rel => exact ⟨k + 1, by omega, by go_num, by rw [allFrom_take HX.out], fun j y hj hy => by
          by_cases e : j = k
          · subst e; rw [HX.out] at hy; cases hy; exact hmx
          · exact HA.out j y (by omega) hy⟩
        case measure => simp [intOf]; omega
      | false =>
        go_wp2_with (go_at_call 90; refine (two_bad _ _ _ (Or.inr (by assumption))).mono ?_; rintro e w' ⟨rfl, rfl⟩)
        go_ret2
        exact ⟨Or.inr ⟨okAll_not HX.out hmx, rfl⟩, rfl⟩
    · go_wp2
      go_ret2
      have hkn : k = n := by omega
      have htk : xs.take k = xs := List.take_of_length_le (by have := HN.out; omega)
      refine ⟨Or.inl ⟨okAll_of fun j x hx => HA.out j x ?_ hx, ?_⟩, rfl⟩
      · have := (List.getElem?_eq_some_iff.1 hx).1
        have := HN.out
        omega
      · exact ret_pair (by rw [htk])

theorem row_ok (a : Option Addr) (xs : List Int) (n cap : Nat) (w : World) (hn : n = xs.length) (hl : n ≤ 30) (hr : Row w a xs) (ho : okAll xs = true) :
    Calls Tryz.prog 86 #[.slice a n cap] w fun e w' => e = .returned (.tuple #[.int .i64 (allFrom 0 xs), .nilIface]) ∧ w' = w := by
  refine (row_le a xs n cap w hn hl hr).mono ?_
  rintro e w' ⟨⟨_, he⟩ | ⟨hb, _⟩, hw⟩
  · exact ⟨he, hw⟩
  · rw [ho] at hb; cases hb
theorem row_bad (a : Option Addr) (xs : List Int) (n cap : Nat) (w : World) (hn : n = xs.length) (hl : n ≤ 30) (hr : Row w a xs) (ho : okAll xs = false) :
    Calls Tryz.prog 86 #[.slice a n cap] w fun e w' => e = .returned (.tuple #[.int .i64 0, .iface 63 (.int .i64 1)]) ∧ w' = w := by
  refine (row_le a xs n cap w hn hl hr).mono ?_
  rintro e w' ⟨⟨hb, _⟩ | ⟨_, he⟩, hw⟩
  · rw [ho] at hb; cases hb
  · exact ⟨he, hw⟩

theorem all_full (a : Option Addr) (n cap : Nat) (w : World) (hn : 30 < n) (hm : n ≤ maxLen) :
    Calls Tryz.prog 62 #[.slice a n cap] w fun e w' => e = .returned (.tuple #[.int .i64 0, .iface 63 (.int .i64 4)]) ∧ w' = w := by
  go_enter Tryz.func62, Tryz.ntmps62
  go_wp2_with (go_at_call 86; refine (row_full _ _ _ _ hn hm).mono ?_; rintro e w' ⟨rfl, rfl⟩)
  go_ret2
  exact ⟨rfl, rfl⟩
theorem all_ok (a : Option Addr) (xs : List Int) (n cap : Nat) (w : World) (hn : n = xs.length) (hl : n ≤ 30) (hr : Row w a xs) (ho : okAll xs = true) :
    Calls Tryz.prog 62 #[.slice a n cap] w fun e w' => e = .returned (.tuple #[.int .i64 (allFrom 0 xs), .nilIface]) ∧ w' = w := by
  have c := row_ok a xs n cap w hn hl hr ho
  have C : Hid (Calls Tryz.prog 86 #[.slice a n cap] w fun e w' => e = .returned (.tuple #[.int .i64 (allFrom 0 xs), .nilIface]) ∧ w' = w) := c
  clear c hn ho
  go_enter Tryz.func62, Tryz.ntmps62
  go_wp2_with (go_at_call 86; refine C.out.mono ?_; rintro e w' ⟨rfl, rfl⟩)
  go_ret2
  exact ⟨rfl, rfl⟩
theorem all_bad (a : Option Addr) (xs : List Int) (n cap : Nat) (w : World) (hn : n = xs.length) (hl : n ≤ 30) (hr : Row w a xs) (ho : okAll xs = false) :
    Calls Tryz.prog 62 #[.slice a n cap] w fun e w' => e = .returned (.tuple #[.int .i64 0, .iface 63 (.int .i64 1)]) ∧ w' = w := by
  have c := row_bad a xs n cap w hn hl hr ho
  have C : Hid (Calls Tryz.prog 86 #[.slice a n cap] w fun e w' => e = .returned (.tuple #[.int .i64 0, .iface 63 (.int .i64 1)]) ∧ w' = w) := c
  clear c hn ho
  go_enter Tryz.func62, Tryz.ntmps62
  go_wp2_with (go_at_call 86; refine C.out.mono ?_; rintro e w' ⟨rfl, rfl⟩)
  go_ret2
  exact ⟨rfl, rfl⟩

theorem of_full (s : ByteArray) (w : World) (hn : 24 < s.size) (hm : s.size ≤ 1152921504606846976) :
    Calls Tryz.prog 82 #[.string s] w fun e w' => e = .returned (.tuple #[.int .i64 0, .iface 63 (.int .i64 4)]) ∧ w' = w := by
  go_enter Tryz.func82, Tryz.ntmps82
  go_wp2
  go_ret2
  exact ⟨rfl, rfl⟩

set_option maxHeartbeats 400000 in
theorem of_ok (s : ByteArray) (w : World) (hl : s.size ≤ 24) :
    Calls Tryz.prog 82 #[.string s] w fun e w' => e = .returned (.tuple #[.int .i64 (ofFrom 1 s.data.toList), .nilIface]) ∧ w' = w := by
  go_enter Tryz.func82, Tryz.ntmps82
  go_wp2
  go_loop [4, 12] (fun m i => ∃ k : Nat, k ≤ s.size ∧ i = .int .i64 k ∧ m = .int .i64 (ofFrom 1 (s.data.toList.take k))) (fun _ i => s.size - (intOf i).toNat)
  case atStart => exact ⟨0, by omega, rfl, rfl⟩
  case round =>
    obtain ⟨k, hk, rfl, rfl⟩ := hrel
    have hrg := ofFrom_range 1 (s.data.toList.take k) (by omega) (by omega)
    obtain ⟨hr0, hr1⟩ := hrg
    by_cases hlt : k < s.size
    · have hb := (s[k]).toNat_lt
      have HX : Hid (s.data.toList[k]? = some s[k]) := by show s.data.toList[k]? = some s[k]; rw [List.getElem?_eq_getElem (by simpa using hlt)]; rfl
      go_wp2_with (go_at_call 108; refine (step_any _ _ _ _ (by omega) (by omega) (by omega) (by omega) (by omega) (by omega)).mono ?_; rintro e w' ⟨rfl, rfl⟩)
      go_round
      case rel => exact ⟨k + 1, by omega, by go_num, by rw [ofFrom_take HX.out]⟩
      case measure => simp [intOf]; omega
    · go_wp2
      go_ret2
      have htk : s.data.toList.take k = s.data.toList := List.take_of_length_le (by simp; omega)
      exact ⟨ret_pair (by rw [htk]), rfl⟩

theorem of_any (s : ByteArray) (w : World) (hm : s.size ≤ 1152921504606846976) :
    Calls Tryz.prog 82 #[.string s] w fun e w' => e = .returned (.tuple #[.int .i64 (ofV s), errV 63 (ofC s)]) ∧ w' = w := by
  unfold ofV ofC
  by_cases h : 24 < s.size
  · rw [if_pos h, if_pos h]; exact of_full s w h hm
  · rw [if_neg h, if_neg h]; exact of_ok s w (by omega)
theorem two_any (a b : Int) (w : World) :
    Calls Tryz.prog 90 #[.int .i64 a, .int .i64 b] w fun e w' => e = .returned (.tuple #[.int .i64 (twoV a b), errV 63 (twoC a b)]) ∧ w' = w := by
  by_cases h : isM a = true ∧ isM b = true
  · rw [twoV_ok h.1 h.2, twoC_ok h.1 h.2]; exact two_ok a b w h.1 h.2
  · rw [twoV_bad h, twoC_bad h]
    refine two_bad a b w ?_
    cases ha : isM a with
    | false => exact Or.inl rfl
    | true => cases hb : isM b with
      | false => exact Or.inr rfl
      | true => exact absurd ⟨ha, hb⟩ h
theorem all_any (a : Option Addr) (xs : List Int) (n cap : Nat) (w : World) (hn : n = xs.length) (hm : n ≤ maxLen) (hr : Row w a xs) :
    Calls Tryz.prog 62 #[.slice a n cap] w fun e w' => e = .returned (.tuple #[.int .i64 (allV xs), errV 63 (allC xs)]) ∧ w' = w := by
  unfold allV allC
  by_cases h : 30 < xs.length
  · rw [if_pos h, if_pos h]; exact all_full a n cap w (by omega) hm
  · rw [if_neg h, if_neg h]
    cases ho : okAll xs with
    | true => exact all_ok a xs n cap w hn (by omega) hr ho
    | false => exact all_bad a xs n cap w hn (by omega) hr ho
end Go.Proofs.YtgnpffkfbacejaaGreatDoor.Measure
namespace Go.Proofs.YtgnpffkfbacejaaGreatDoor.M
open Go.RowKit Go.ChangeShapes Go.WideShapes Go.ChangeAt

/-- But for the blocks of S, what was there is as it was. -/
def Only (S : Nat → Prop) (w w' : World) : Prop :=
  w'.os = w.os ∧ w'.tape = w.tape ∧ w'.output = w.output ∧ w.heap.size ≤ w'.heap.size ∧ ∀ k, k < w.heap.size → ¬ S k → w'.heap[k]? = w.heap[k]?
section
variable {S T : Nat → Prop} {w w1 w2 : World}
theorem Only.refl (S : Nat → Prop) (w : World) : Only S w w := ⟨rfl, rfl, rfl, Nat.le_refl _, fun _ _ _ => rfl⟩
theorem Only.trans (h : Only S w w1) (h2 : Only T w1 w2) (hT : ∀ k, k < w.heap.size → T k → S k) : Only S w w2 :=
  ⟨h2.1.trans h.1, h2.2.1.trans h.2.1, h2.2.2.1.trans h.2.2.1, Nat.le_trans h.2.2.2.1 h2.2.2.2.1, fun k hk hn => (h2.2.2.2.2 k (Nat.lt_of_lt_of_le hk h.2.2.2.1) (fun ht => hn (hT k hk ht))).trans (h.2.2.2.2 k hk hn)⟩
theorem Only.of_below (h : Below w.heap.size w w1) : Only S w w1 := ⟨h.os, h.tape, h.output, h.size, fun k hk _ => h.block k hk⟩
theorem Only.below {B : Nat} (h : Only S w w1) (hB : B ≤ w.heap.size) (hS : ∀ k, S k → B ≤ k) : Below B w w1 :=
  ⟨h.1, h.2.1, h.2.2.1, h.2.2.2.1, fun k hk => h.2.2.2.2 k (Nat.lt_of_lt_of_le hk hB) (fun hs => absurd (hS k hs) (Nat.not_le.2 hk))⟩
theorem Only.size (h : Only S w w1) : w.heap.size ≤ w1.heap.size := h.2.2.2.1
theorem Only.heap (h : Only S w w1) {k : Nat} {o : Obj} (hk : w.heap[k]? = some o) (hn : ¬ S k) : w1.heap[k]? = some o := (h.2.2.2.2 k (blk_lt hk) hn).trans hk
theorem Only.alloc (h : Only S w w1) (o : Obj) : Only S w (w1.alloc o) := h.trans (Only.of_below (S := fun _ => False) (below_new w1 o)) (fun _ _ hf => hf.elim)
theorem Only.after (h : Only S w w1) (hb : Below w1.heap.size w1 w2) : Only S w w2 := h.trans (Only.of_below (S := fun _ => False) hb) (fun _ _ hf => hf.elim)
theorem Only.setCell (h : Only S w w1) {p : Addr} (hp : S p.block) (u : Value) : Only S w (w1.setCell p u) :=
  h.trans (T := fun k => k = p.block) ⟨rfl, rfl, rfl, by simp [World.setCell], fun k _ hn => Below.heap_setCell _ _ _ _ hn⟩ (fun k _ e => by rw [e]; exact hp)
theorem Only.setRow (h : Only S w w1) {b : Nat} (hp : S b) (cs : Array Value) : Only S w (w1.setRow b cs) :=
  h.trans (T := fun k => k = b) ⟨rfl, rfl, rfl, by simp [World.setRow], fun k _ hn => setRow_other _ _ _ _ hn⟩ (fun k _ e => by rw [e]; exact hp)
theorem Only.drew (h : Only S w w1) : Only S w w1.drew := h
theorem Only.grown (h : Only S w w1) {row : Option Nat} (hg : w1.grownBy w2 row) (hr : ∀ k, row = some k → S k ∨ w.heap.size ≤ k) : Only S w w2 :=
  h.trans (T := fun k => row = some k) ⟨hg.os, hg.tape, hg.output, hg.size, fun k hk hn => hg.block k hk (fun e => hn e.symm)⟩ (fun k hk e => by
    rcases hr k e with h | h
    · exact h
    · omega)
end
theorem Own.only {S : Nat → Prop} {w w1 : World} {base : Nat} {e : TypeId} {v : Value} {xs : List Int} (h : Own w base e v xs) (ho : Only S w w1) (hn : ∀ k, v.ownBlock = some k → ¬ S k) : Own w1 base e v xs := by
  refine ⟨h.1, ?_⟩
  rcases h.2 with h2 | ⟨g, cap, cur, h1, h2, h3, h4⟩
  · exact Or.inl h2
  · exact Or.inr ⟨g, cap, cur, h1, h2, ho.heap h3 (hn g (by rw [h1]; rfl)), h4⟩
theorem Own.lt {w : World} {base : Nat} {e : TypeId} {v : Value} {xs : List Int} (h : Own w base e v xs) : ∀ k, v.ownBlock = some k → k < w.heap.size := by
  intro k hk
  rcases h.2 with ⟨h2, _⟩ | ⟨g, cap, cur, h1, _, h3, _⟩
  · rw [h2] at hk; cases hk
  · rw [h1] at hk
    cases hk
    exact blk_lt h3

/-- 'x = append(x, ys...)' where x is a row of ints of the call's own and ys can be read; where the row lies then. -/
theorem wpList_appAt {P : Program} {w : World} {ops : Array Oper} {rest : List Oper} {o : Oper} {a : Act} {Q : Exit → Act → World → Prop} (hgd : o.guard = none) (s x : Operand) (t : TypeId)
    (ho : o.op = .call { callee := .builtin .append, args := #[s, x], argTypes := #[t, t] })
    (base : Nat) (e : TypeId) (hinfo : (P.info? e).map (fun i => (i.zero, i.size, i.bytes)) = some (some (.int .i64 0), 1, 8)) (ht : P.underlying t = some (.slice e))
    (v : Value) (xs : List Int) (hs : a.eval s = v) (hown : Own w base e v xs)
    (ad : Option Addr) (m c : Nat) (ys : List Int) (hx : a.eval x = .slice ad m c) (hm : m = ys.length) (hc : ad = none → c = 0) (hrow : Row w ad ys)
    (hb : xs.length + ys.length ≤ 1000000) (hbase : base ≤ w.heap.size)
    (h : ∀ v' w', Own w' base e v' (xs ++ ys) → w.grownBy w' v.ownBlock → (v'.ownBlock = v.ownBlock ∨ v'.ownBlock = some w.heap.size) → wpList P ops Q rest (a.put o.dst v') w') : wpList P ops Q (o :: rest) a w := by
  obtain ⟨i, hi, hz0, hz1, hz2⟩ := info_parts hinfo
  subst hm
  cases ad with
  | none =>
    have hy : ys = [] := by
      rcases hrow with h | ⟨b, off, h, _⟩
      · exact h
      · cases h
    subst hy
    rw [hc rfl] at hx
    refine wpList_append_own_none hgd s x t ho base e i 1 ht hi v xs.length _ hs hown hx (h v w (by simpa using hown) ⟨rfl, rfl, rfl, Nat.le_refl _, fun _ _ _ => rfl⟩ (Or.inl rfl))
  | some ad =>
    refine wpList_append_own_at w hgd s x t ho base e i (.int .i64 0) 1 8 ht hi hz0 hz1 hz2 rfl (by decide) v xs.length _ hs hown ad ys.length c (ys.map (Value.int .i64)) hx (by simp) ?_ ?_ (by unfold maxLen; omega) (by omega) hbase ?_
    · intro j u hj
      rw [List.getElem?_map] at hj
      obtain ⟨y, hy, rfl⟩ := Option.map_eq_some_iff.1 hj
      rcases hrow with h | ⟨b, off, h, hcell⟩
      · subst h; simp at hy
      · cases h
        rw [add_none]
        exact hcell j y hy
    · intro u hu
      obtain ⟨_, _, rfl⟩ := List.mem_map.1 hu
      rfl
    · intro v' w' h1 h2 _ h3
      refine h v' w' ?_ h2 h3
      have e1 : (xs ++ ys).length = xs.length + ys.length := by simp
      unfold Own
      rw [e1, List.map_append]
      exact h1
end Go.Proofs.YtgnpffkfbacejaaGreatDoor.M
namespace Go.Proofs.YtgnpffkfbacejaaGreatDoor.M
set_option linter.unusedVariables false

/-- A name is one to eight letters. -/
def nameB (s : ByteArray) : Bool := letS s && decide (1 ≤ s.size ∧ s.size ≤ 8)
def updF (f : ByteArray → Int) (nm : ByteArray) (v : Int) : ByteArray → Int := fun s => if s = nm then v else f s
/-- One raised: what is wrong, whether it is another one, and what is then. -/
def raiE (f : ByteArray → Int) (k : Nat) (nm : ByteArray) (v : Int) : Int :=
  if nameB nm = true then (if 0 ≤ v ∧ v ≤ 1000 then (if v ≤ f nm then 0 else if f nm = 0 ∧ 12 ≤ k then 4 else 0) else 1) else 3
def raiB (f : ByteArray → Int) (k : Nat) (nm : ByteArray) (v : Int) : Bool := decide (nameB nm = true ∧ (0 ≤ v ∧ v ≤ 1000) ∧ f nm < v ∧ ¬ (f nm = 0 ∧ 12 ≤ k))
def raiF (f : ByteArray → Int) (k : Nat) (nm : ByteArray) (v : Int) : ByteArray → Int := if raiB f k nm v = true then updF f nm v else f
def raiK (f : ByteArray → Int) (k : Nat) (nm : ByteArray) (v : Int) : Nat := if raiB f k nm v = true then (if f nm = 0 then k + 1 else k) else k
def leaE (nm : ByteArray) : Int := if nameB nm = true then 0 else 3
def leaV (f : ByteArray → Int) (nm : ByteArray) : Int := if nameB nm = true then f nm else 0
def mayE (f : ByteArray → Int) (nm : ByteArray) (v : Int) : Int := if nameB nm = true then (if 1 ≤ v ∧ v ≤ 1000 then (if v < f nm then 9 else 0) else 1) else 3
section
variable {f : ByteArray → Int} {k : Nat} {nm : ByteArray} {v : Int}
theorem raiB_iff : raiB f k nm v = true ↔ nameB nm = true ∧ (0 ≤ v ∧ v ≤ 1000) ∧ f nm < v ∧ ¬ (f nm = 0 ∧ 12 ≤ k) := by unfold raiB; rw [decide_eq_true_iff]
theorem raiE_rise (h : raiB f k nm v = true) : raiE f k nm v = 0 := by
  obtain ⟨h1, h2, h3, h4⟩ := raiB_iff.1 h
  unfold raiE
  rw [if_pos h1, if_pos h2, if_neg (by omega), if_neg h4]
theorem raiF_no (h : ¬ raiB f k nm v = true) : raiF f k nm v = f := if_neg h
theorem raiK_no (h : ¬ raiB f k nm v = true) : raiK f k nm v = k := if_neg h
theorem raiF_yes (h : raiB f k nm v = true) : raiF f k nm v = updF f nm v := if_pos h
theorem raiE_name (h : nameB nm = false) : raiE f k nm v = 3 ∧ raiB f k nm v = false := by
  refine ⟨by unfold raiE; rw [h]; rfl, ?_⟩
  cases hb : raiB f k nm v with
  | false => rfl
  | true => rw [(raiB_iff.1 hb).1] at h; cases h
theorem leaE_no (h : nameB nm = false) : leaE nm = 3 ∧ leaV f nm = 0 := by unfold leaE leaV; rw [h]; exact ⟨rfl, rfl⟩
theorem leaE_ok (h : nameB nm = true) : leaE nm = 0 ∧ leaV f nm = f nm := by unfold leaE leaV; rw [if_pos h, if_pos h]; exact ⟨rfl, rfl⟩
theorem updF_same : updF f nm v nm = v := if_pos rfl
/-- The least version never goes back; it is another one just where it is more. -/
theorem rai_least (h : nameB nm = true) : f nm ≤ raiF f k nm v nm ∧ (raiB f k nm v = decide (f nm < raiF f k nm v nm)) ∧ (¬ raiE f k nm v = 0 → raiF f k nm v nm = f nm) := by
  cases hb : raiB f k nm v with
  | true =>
    have h3 := (raiB_iff.1 hb).2.2.1
    rw [raiF_yes hb, updF_same]
    exact ⟨by omega, (decide_eq_true h3).symm, fun hn => absurd (raiE_rise hb) hn⟩
  | false =>
    rw [raiF_no (by rw [hb]; exact Bool.false_ne_true)]
    exact ⟨Int.le_refl _, (decide_eq_false (by omega)).symm, fun _ => rfl⟩
/-- Of one name alone there is always room: it is the greatest that was. -/
theorem rai_one (h : nameB nm = true) (hk : k ≤ 1) (hv : 0 ≤ f nm) : raiF f k nm v nm = if 0 ≤ v ∧ v ≤ 1000 ∧ f nm < v then v else f nm := by
  by_cases hc : 0 ≤ v ∧ v ≤ 1000 ∧ f nm < v
  · rw [if_pos hc, raiF_yes (raiB_iff.2 ⟨h, ⟨hc.1, hc.2.1⟩, hc.2.2, by omega⟩), updF_same]
  · rw [if_neg hc, raiF_no (fun hb => hc (by obtain ⟨_, h2, h3, _⟩ := raiB_iff.1 hb; exact ⟨h2.1, h2.2, h3⟩))]
end

/-- The names that a law lays: an n and a letter. -/
def nmI (i : Nat) : ByteArray := { data := #[110, UInt8.ofNat (97 + i)] }
theorem nmI_name_fin : ∀ i : Fin 20, nameB (nmI i.val) = true := by decide
theorem nmI_inj_fin : ∀ i j : Fin 20, nmI i.val = nmI j.val → i.val = j.val := by decide
theorem nmI_name {i : Nat} (h : i < 20) : nameB (nmI i) = true := nmI_name_fin ⟨i, h⟩
theorem nmI_inj {i j : Nat} (hi : i < 20) (hj : j < 20) (h : nmI i = nmI j) : i = j := nmI_inj_fin ⟨i, hi⟩ ⟨j, hj⟩ h
def inI (n : Nat) (s : ByteArray) : Bool := (List.range n).any fun j => decide (s = nmI j)
theorem inI_iff {n : Nat} {s : ByteArray} : inI n s = true ↔ ∃ j, j < n ∧ s = nmI j := by
  unfold inI
  rw [List.any_eq_true]
  exact ⟨fun ⟨j, hj, e⟩ => ⟨j, List.mem_range.1 hj, of_decide_eq_true e⟩, fun ⟨j, hj, e⟩ => ⟨j, List.mem_range.2 hj, decide_eq_true e⟩⟩
def fI (i : Nat) : ByteArray → Int := fun s => if inI (min i 12) s = true then 1 else 0
theorem fI_zero : fI 0 = fun _ => 0 := by
  funext s
  unfold fI
  rw [if_neg]
  intro h
  obtain ⟨j, hj, _⟩ := inI_iff.1 h
  omega
theorem fI_own {i : Nat} (h : i < 20) : fI i (nmI i) = 0 := by
  unfold fI
  rw [if_neg]
  intro hc
  obtain ⟨j, hj, e⟩ := inI_iff.1 hc
  have := nmI_inj (i := i) (j := j) h (by omega) e
  omega
theorem fI_next {i : Nat} (h : i < 12) : updF (fI i) (nmI i) 1 = fI (i + 1) := by
  funext s
  unfold updF fI
  rw [show min (i + 1) 12 = i + 1 by omega, show min i 12 = i by omega]
  by_cases e : s = nmI i
  · rw [if_pos e, if_pos (inI_iff.2 ⟨i, by omega, e⟩)]
  · rw [if_neg e]
    by_cases hm : inI i s = true
    · obtain ⟨j, hj, e2⟩ := inI_iff.1 hm
      rw [if_pos hm, if_pos (inI_iff.2 ⟨j, by omega, e2⟩)]
    · rw [if_neg hm, if_neg]
      intro hc
      obtain ⟨j, hj, e2⟩ := inI_iff.1 hc
      by_cases hji : j = i
      · rw [hji] at e2; exact e e2
      · exact hm (inI_iff.2 ⟨j, by omega, e2⟩)
theorem fI_full {i : Nat} (h : 12 ≤ i) : fI (i + 1) = fI i := by unfold fI; rw [show min (i + 1) 12 = min i 12 by omega]
theorem fI_zz (i : Nat) : fI i { data := #[122, 122] } = 0 := by
  unfold fI
  rw [if_neg]
  intro hc
  obtain ⟨j, hj, e⟩ := inI_iff.1 hc
  have h1 := congrArg (fun s : ByteArray => s.data.toList[0]?) e
  simp [nmI] at h1
end Go.Proofs.YtgnpffkfbacejaaGreatDoor.M
namespace Go.Proofs.YtgnpffkfbacejaaGreatDoor.M
set_option linter.unusedVariables false

def oneF (nm : ByteArray) (m : Int) : ByteArray → Int := fun s => if s = nm then m else 0
def oneK (m : Int) : Nat := if m = 0 then 0 else 1
def valV (v : Int) : Int := if 0 ≤ v ∧ v ≤ 1000 then v else 0
def stepM (m v : Int) : Int := max m (valV v)
theorem oneF_zero (nm : ByteArray) : oneF nm 0 = fun _ => 0 := by funext s; unfold oneF; split <;> rfl
theorem oneF_at (nm : ByteArray) (m : Int) : oneF nm m nm = m := if_pos rfl
theorem oneF_upd (nm : ByteArray) (m v : Int) : updF (oneF nm m) nm v = oneF nm v := by
  funext s
  unfold updF oneF
  by_cases e : s = nm
  · rw [if_pos e, if_pos e]
  · rw [if_neg e, if_neg e, if_neg e]
theorem stepM_ge {m v : Int} (h : 0 ≤ m) : 0 ≤ stepM m v ∧ m ≤ stepM m v := by unfold stepM; omega
theorem stepM_eq {m v : Int} (h : 0 ≤ m) : stepM m v = if 0 ≤ v ∧ v ≤ 1000 ∧ m < v then v else m := by
  unfold stepM valV
  split <;> split <;> omega
theorem raise_one {nm : ByteArray} {m v : Int} (hn : nameB nm = true) (hm : 0 ≤ m) :
    raiB (oneF nm m) (oneK m) nm v = decide (m < stepM m v) ∧ raiE (oneF nm m) (oneK m) nm v = (if 0 ≤ v ∧ v ≤ 1000 then 0 else 1) ∧ raiF (oneF nm m) (oneK m) nm v = oneF nm (stepM m v) ∧ raiK (oneF nm m) (oneK m) nm v = oneK (stepM m v) := by
  have hk : ¬ (oneF nm m nm = 0 ∧ 12 ≤ oneK m) := by unfold oneK; split <;> omega
  have hat := oneF_at nm m
  have hs := stepM_eq (v := v) hm
  by_cases hc : 0 ≤ v ∧ v ≤ 1000 ∧ m < v
  · rw [if_pos hc] at hs
    have hb : raiB (oneF nm m) (oneK m) nm v = true := raiB_iff.2 ⟨hn, ⟨hc.1, hc.2.1⟩, by rw [hat]; exact hc.2.2, hk⟩
    refine ⟨by rw [hb, hs]; exact (decide_eq_true hc.2.2).symm, by rw [raiE_rise hb, if_pos ⟨hc.1, hc.2.1⟩], by rw [raiF_yes hb, oneF_upd, hs], ?_⟩
    unfold raiK
    rw [if_pos hb, hat, hs]
    unfold oneK
    rw [if_neg (show ¬ v = 0 by omega)]
    split <;> rfl
  · rw [if_neg hc] at hs
    have hb : ¬ raiB (oneF nm m) (oneK m) nm v = true := fun hb => hc (by obtain ⟨_, h2, h3, _⟩ := raiB_iff.1 hb; rw [hat] at h3; exact ⟨h2.1, h2.2, h3⟩)
    refine ⟨by rw [hs]; simp at hb ⊢; exact hb, ?_, by rw [raiF_no hb, hs], by rw [raiK_no hb, hs]⟩
    unfold raiE
    rw [if_pos hn]
    by_cases hv : 0 ≤ v ∧ v ≤ 1000
    · rw [if_pos hv, if_pos hv, if_pos (by rw [hat]; omega)]
    · rw [if_neg hv, if_neg hv]
theorem may_one {nm : ByteArray} {m v : Int} (hn : nameB nm = true) : mayE (oneF nm m) nm v = if 1 ≤ v ∧ v ≤ 1000 then (if v < m then 9 else 0) else 1 := by unfold mayE; rw [if_pos hn, oneF_at]
/-- The greatest of some. -/
def mx : List Int → Int
  | [] => 0
  | v :: r => stepM (mx r) v
theorem mx_ge : ∀ xs, 0 ≤ mx xs
  | [] => Int.le_refl _
  | v :: r => (stepM_ge (mx_ge r)).1
theorem mx_snoc (v : Int) : ∀ xs, mx (xs ++ [v]) = stepM (mx xs) v
  | [] => rfl
  | u :: r => by
    rw [List.cons_append]
    show stepM (mx (r ++ [v])) u = stepM (stepM (mx r) u) v
    rw [mx_snoc v r]
    unfold stepM
    omega
theorem mx_take {xs : List Int} {k : Nat} {v : Int} (h : xs[k]? = some v) : mx (xs.take (k + 1)) = stepM (mx (xs.take k)) v := by rw [take_one h, mx_snoc]
theorem mx_drop {xs : List Int} {k : Nat} {v : Int} (h : xs[k]? = some v) : mx (xs.drop k) = stepM (mx (xs.drop (k + 1))) v := by
  obtain ⟨h1, h2⟩ := List.getElem?_eq_some_iff.1 h
  rw [List.drop_eq_getElem_cons h1, h2]
  rfl
end Go.Proofs.YtgnpffkfbacejaaGreatDoor.M
namespace Go.Proofs.YtgnpffkfbacejaaGreatDoor.M
set_option linter.unusedVariables false

/-- A record: a name, its version, and how many bytes it has. -/
abbrev Rcd := ByteArray × Int × Nat
/-- A log: its whole records, the bytes of one that was not written whole, how many bytes are safe, in how many steps it stops (below 0: never), and whether it has stopped. -/
structure LS where
  rs : List Rcd
  half : Nat
  safe : Nat
  fail : Int
  stop : Bool
/-- The counts that records make: the least versions, and of how many names. -/
def cntL (rs : List Rcd) : (ByteArray → Int) × Nat := rs.foldl (fun c r => (raiF c.1 c.2 r.1 r.2.1, raiK c.1 c.2 r.1 r.2.1)) (fun _ => 0, 0)
theorem cntL_nil : cntL [] = (fun _ => 0, 0) := rfl
theorem cntL_snoc (rs : List Rcd) (r : Rcd) : cntL (rs ++ [r]) = (raiF (cntL rs).1 (cntL rs).2 r.1 r.2.1, raiK (cntL rs).1 (cntL rs).2 r.1 r.2.1) := by
  unfold cntL
  rw [List.foldl_append]
  rfl
def LS.f (j : LS) : ByteArray → Int := (cntL j.rs).1
def LS.k (j : LS) : Nat := (cntL j.rs).2
/-- How many bytes records have. -/
def lenL (rs : List Rcd) : Nat := (rs.map fun r => r.2.2).sum
theorem lenL_nil : lenL [] = 0 := rfl
theorem lenL_snoc (rs : List Rcd) (r : Rcd) : lenL (rs ++ [r]) = lenL rs + r.2.2 := by unfold lenL; rw [List.map_append, List.sum_append]; rfl
theorem lenL_take_le (rs : List Rcd) (n : Nat) : lenL (rs.take n) ≤ lenL rs := by
  unfold lenL
  induction rs generalizing n with
  | nil => simp
  | cons r t ih =>
    cases n with
    | zero => simp
    | succ n => simp only [List.take_succ_cons, List.map_cons, List.sum_cons]; have := ih n; omega
theorem lenL_take_mono (rs : List Rcd) {m n : Nat} (h : m ≤ n) : lenL (rs.take m) ≤ lenL (rs.take n) := by
  have e : rs.take m = (rs.take n).take m := by rw [List.take_take, Nat.min_eq_left h]
  rw [e]
  exact lenL_take_le _ _
def LS.bytes (j : LS) : Nat := lenL j.rs + j.half
/-- A new one. -/
def newL : LS := ⟨[], 0, 0, -1, false⟩
/-- Does it stop at this step? And if not, how many are left. -/
def lessF (n : Int) : Int := if 0 < n then n - 1 else n
/-- One raised: what is wrong, whether it is another one, and what is then; n: how many bytes its record has. -/
def lraG (j : LS) (nm : ByteArray) (v : Int) : Bool := decide (j.stop = false) && raiB j.f j.k nm v && decide (j.rs.length < 30)
def lraE (j : LS) (nm : ByteArray) (v : Int) : Int :=
  if j.stop = true then 6 else if raiB j.f j.k nm v = true then (if j.rs.length < 30 then (if j.fail = 0 then 6 else 0) else 4) else raiE j.f j.k nm v
def lraB (j : LS) (nm : ByteArray) (v : Int) : Bool := lraG j nm v && decide (¬ j.fail = 0)
def lraT (j : LS) (nm : ByteArray) (v : Int) (n : Nat) : LS :=
  if lraG j nm v = true then (if j.fail = 0 then { j with half := n / 2, stop := true } else { j with rs := j.rs ++ [(nm, v, n)], fail := lessF j.fail }) else j
/-- Synced. -/
def synE (j : LS) : Int := if j.stop = true then 6 else if j.fail = 0 then 6 else 0
def synT (j : LS) : LS := if j.stop = true then j else if j.fail = 0 then { j with stop := true } else { j with safe := j.bytes, fail := lessF j.fail }
/-- Told when to stop. -/
def faiT (j : LS) (n : Int) : LS := { j with fail := if n < 0 then -1 else n }
/-- How many bytes are left behind a crash, and how many records are whole among so many. -/
def highL (j : LS) (keep : Int) : Nat := if keep ≤ 0 then j.safe else if keep < (j.bytes : Int) - j.safe then j.safe + keep.toNat else j.bytes
def leftL : List Rcd → Nat → Nat
  | [], _ => 0
  | r :: rs, n => if r.2.2 ≤ n then leftL rs (n - r.2.2) + 1 else 0
def craT (j : LS) (keep : Int) : LS :=
  let rs := j.rs.take (leftL j.rs (highL j keep))
  ⟨rs, 0, lenL rs, -1, false⟩
theorem leftL_le : ∀ (rs : List Rcd) (n : Nat), leftL rs n ≤ rs.length
  | [], _ => Nat.le_refl _
  | r :: rs, n => by
    unfold leftL
    split
    · have := leftL_le rs (n - r.2.2); simp; omega
    · simp
theorem leftL_len : ∀ (rs : List Rcd) (n : Nat), lenL (rs.take (leftL rs n)) ≤ n
  | [], n => by simp [leftL, lenL]
  | r :: rs, n => by
    unfold leftL
    split
    · have := leftL_len rs (n - r.2.2)
      rw [List.take_succ_cons]
      unfold lenL at this ⊢
      rw [List.map_cons, List.sum_cons]
      omega
    · simp [lenL]
/-- Just the records whose end is not above are left. -/
theorem leftL_iff : ∀ (rs : List Rcd) (n i : Nat), i ≤ rs.length → (lenL (rs.take i) ≤ n ↔ i ≤ leftL rs n)
  | [], n, i, hi => by
    have : i = 0 := by simpa using hi
    subst this
    simp [leftL, lenL]
  | r :: rs, n, 0, hi => by simp [lenL]
  | r :: rs, n, i + 1, hi => by
    have hi' : i ≤ rs.length := by simpa using hi
    rw [List.take_succ_cons]
    have e : lenL (r :: rs.take i) = r.2.2 + lenL (rs.take i) := by unfold lenL; rw [List.map_cons, List.sum_cons]
    rw [e]
    unfold leftL
    split
    · rename_i h
      have := leftL_iff rs (n - r.2.2) i hi'
      omega
    · rename_i h
      omega
/-- Each record has two bytes or more, and not many; there are thirty at most; a half one is there only where it has stopped. -/
structure OkL (j : LS) : Prop where
  many : j.rs.length ≤ 30
  two : ∀ r ∈ j.rs, 2 ≤ r.2.2 ∧ r.2.2 ≤ 1000
  half : j.half ≤ 500
  stop : j.stop = false → j.half = 0
  safe : j.safe ≤ lenL j.rs
  fail : -1 ≤ j.fail
  rise : ∀ (i : Nat) (r : Rcd), j.rs[i]? = some r → raiB (cntL (j.rs.take i)).1 (cntL (j.rs.take i)).2 r.1 r.2.1 = true
  cut : ∃ i, i ≤ j.rs.length ∧ j.safe = lenL (j.rs.take i)
theorem lenL_le : ∀ {rs : List Rcd}, (∀ r ∈ rs, 2 ≤ r.2.2 ∧ r.2.2 ≤ 1000) → lenL rs ≤ 1000 * rs.length
  | [], _ => by simp [lenL]
  | r :: rs, h => by
    have h1 := lenL_le (rs := rs) (fun x hx => h x (List.mem_cons_of_mem _ hx))
    have h2 := (h r (List.mem_cons_self ..)).2
    unfold lenL at h1 ⊢
    rw [List.map_cons, List.sum_cons, List.length_cons]
    omega
section
variable {j : LS}
theorem OkL.bytes (h : OkL j) : j.bytes ≤ 31000 ∧ j.safe ≤ j.bytes := by
  have h1 := lenL_le h.two
  have h2 := h.many
  have h3 := h.half
  have h4 := h.safe
  unfold LS.bytes
  omega
theorem okL_new : OkL newL :=
  ⟨by simp [newL], fun r h => (by cases h), by simp [newL], fun _ => rfl, by simp [newL], by simp [newL], fun i r h => by simp [newL] at h, 0, by simp [newL], rfl⟩
theorem lraG_iff {nm : ByteArray} {v : Int} : lraG j nm v = true ↔ j.stop = false ∧ raiB j.f j.k nm v = true ∧ j.rs.length < 30 := by
  unfold lraG
  rw [Bool.and_eq_true, Bool.and_eq_true, decide_eq_true_iff, decide_eq_true_iff, and_assoc]
theorem okL_raise {nm : ByteArray} {v : Int} {n : Nat} (h : OkL j) (h2 : 2 ≤ n) (h3 : n ≤ 1000) : OkL (lraT j nm v n) := by
  unfold lraT
  by_cases hg : lraG j nm v = true
  · rw [if_pos hg]
    obtain ⟨g1, g2, g3⟩ := lraG_iff.1 hg
    by_cases hf : j.fail = 0
    · rw [if_pos hf]
      exact ⟨h.many, h.two, by show n / 2 ≤ 500; omega, fun hs => (by cases hs), h.safe, h.fail, h.rise, h.cut⟩
    · rw [if_neg hf]
      refine ⟨by simp; omega, fun r hr => ?_, h.half, h.stop, ?_, ?_, fun i r hr => ?_, ?_⟩
      · rcases List.mem_append.1 hr with hr | hr
        · exact h.two r hr
        · rw [List.mem_singleton.1 hr]; exact ⟨h2, h3⟩
      · show j.safe ≤ lenL (j.rs ++ [(nm, v, n)])
        rw [lenL_snoc]
        have := h.safe
        omega
      · show -1 ≤ lessF j.fail
        unfold lessF
        have := h.fail
        split <;> omega
      · have hr' : (j.rs ++ [(nm, v, n)])[i]? = some r := hr
        by_cases hi : i < j.rs.length
        · rw [List.getElem?_append_left hi] at hr'
          show raiB (cntL ((j.rs ++ [(nm, v, n)]).take i)).1 (cntL ((j.rs ++ [(nm, v, n)]).take i)).2 r.1 r.2.1 = true
          rw [List.take_append_of_le_length (by omega)]
          exact h.rise i r hr'
        · rw [List.getElem?_append_right (by omega)] at hr'
          have h0 : i - j.rs.length = 0 := by
            by_cases h0 : i - j.rs.length = 0
            · exact h0
            · rw [List.getElem?_eq_none (by simp; omega)] at hr'; cases hr'
          rw [h0] at hr'
          cases hr'
          show raiB (cntL ((j.rs ++ [(nm, v, n)]).take i)).1 (cntL ((j.rs ++ [(nm, v, n)]).take i)).2 nm v = true
          rw [show i = j.rs.length by omega, List.take_left]
          exact g2
      · obtain ⟨i, hi, e⟩ := h.cut
        refine ⟨i, by simp; omega, ?_⟩
        show j.safe = lenL ((j.rs ++ [(nm, v, n)]).take i)
        rw [List.take_append_of_le_length hi]
        exact e
  · rw [if_neg hg]; exact h
theorem okL_sync (h : OkL j) : OkL (synT j) := by
  unfold synT
  by_cases hs : j.stop = true
  · rw [if_pos hs]; exact h
  · rw [if_neg hs]
    by_cases hf : j.fail = 0
    · rw [if_pos hf]
      exact ⟨h.many, h.two, h.half, fun hs => (by cases hs), h.safe, h.fail, h.rise, h.cut⟩
    · rw [if_neg hf]
      have hz := h.stop (by simpa using hs)
      have hb : j.bytes = lenL j.rs := by unfold LS.bytes; omega
      refine ⟨h.many, h.two, h.half, h.stop, ?_, ?_, h.rise, j.rs.length, Nat.le_refl _, ?_⟩
      · show j.bytes ≤ lenL j.rs; omega
      · show -1 ≤ lessF j.fail
        unfold lessF
        have := h.fail
        split <;> omega
      · show j.bytes = lenL (j.rs.take j.rs.length)
        rw [List.take_length]; exact hb
theorem okL_fail (h : OkL j) (n : Int) : OkL (faiT j n) :=
  ⟨h.many, h.two, h.half, h.stop, h.safe, by show -1 ≤ (if n < 0 then -1 else n); split <;> omega, h.rise, h.cut⟩
theorem okL_crash (h : OkL j) (keep : Int) : OkL (craT j keep) := by
  have hl := leftL_le j.rs (highL j keep)
  have h1 := h.many
  refine ⟨?_, fun r hr => h.two r (List.mem_of_mem_take hr), by show (0 : Nat) ≤ 500; omega, fun _ => rfl, Nat.le_refl _, by show (-1 : Int) ≤ -1; omega, fun i r hr => ?_, _, Nat.le_refl _, ?_⟩
  · show (j.rs.take (leftL j.rs (highL j keep))).length ≤ 30
    rw [List.length_take]
    omega
  · have hr' : (j.rs.take (leftL j.rs (highL j keep)))[i]? = some r := hr
    show raiB (cntL ((j.rs.take (leftL j.rs (highL j keep))).take i)).1 (cntL ((j.rs.take (leftL j.rs (highL j keep))).take i)).2 r.1 r.2.1 = true
    have hi : i < leftL j.rs (highL j keep) := by
      by_cases hi : i < leftL j.rs (highL j keep)
      · exact hi
      · rw [List.getElem?_eq_none (by rw [List.length_take]; omega)] at hr'; cases hr'
    rw [List.getElem?_take_of_lt hi] at hr'
    rw [List.take_take, Nat.min_eq_left (by omega)]
    exact h.rise i r hr'
  · show lenL (j.rs.take (leftL j.rs (highL j keep))) = lenL ((j.rs.take (leftL j.rs (highL j keep))).take (j.rs.take (leftL j.rs (highL j keep))).length)
    rw [List.take_length]
end
end Go.Proofs.YtgnpffkfbacejaaGreatDoor.M
namespace Go.Proofs.YtgnpffkfbacejaaGreatDoor.Image
open Go.ChangeShapes Go.WideShapes Go.ChangeAt Go.RowKit
open Go.Proofs.YtgnpffkfbacejaaGreatDoor.M
set_option linter.unusedVariables false

theorem off_any (r : Nat) (w : World) : Calls Tryz.prog 103 #[.int .i32 r] w fun e w' => e = .returned (.bool (offR r)) ∧ w' = w := by
  by_cases h1 : r < 97
  · have hz : (r : Int) < 97 := by omega
    have E := hide (show offR r = true by unfold offR; simp [h1])
    clear h1
    go_enter Tryz.func103, Tryz.ntmps103
    go_wp2
    go_ret
    exact ⟨by rw [E.out]; rfl, rfl⟩
  · have hz : ¬ (r : Int) < 97 := by omega
    by_cases h2 : 122 < r
    · have hy : (122 : Int) < r := by omega
      have E := hide (show offR r = true by unfold offR; simp [h1, h2])
      clear h1 h2
      go_enter Tryz.func103, Tryz.ntmps103
      go_wp2
      go_ret
      exact ⟨by rw [E.out]; rfl, rfl⟩
    · have hy : ¬ (122 : Int) < r := by omega
      have E := hide (show offR r = false by unfold offR; simp [h1, h2])
      clear h1 h2
      go_enter Tryz.func103, Tryz.ntmps103
      go_wp2
      go_ret
      exact ⟨by rw [E.out]; rfl, rfl⟩

theorem pred (w : World) : PredAt Tryz.prog 103 #[] encR offR w := fun W r _ =>
  (off_any r W).mono fun _ _ ⟨he, hw⟩ => ⟨he, 0, hw⟩

theorem contains_any (s : ByteArray) (w : World) :
    Calls Tryz.prog 102 #[.string s, .func (.func 103) #[] #[]] w fun e w' => e = .returned (.bool (!letS s)) ∧ Below w.heap.size w w' := by
  have h := Any.strings_ContainsFunc Tryz.lays17 103 #[] (enters_of Tryz.func103 (by kernel_rfl) rfl) offR s w (pred w)
  rw [idx_letters] at h
  exact h

theorem letters_any (s : ByteArray) (w : World) :
    Calls Tryz.prog 76 #[.string s] w fun e w' => e = .returned (.bool (letS s)) ∧ Below w.heap.size w w' := by
  go_enter Tryz.func76, Tryz.ntmps76
  go_wp2_with (go_at_call 102; refine (contains_any s _).mono ?_; rintro e w' ⟨rfl, hb⟩)
  go_ret
  exact ⟨by simp, hb⟩

theorem empty_is {s : ByteArray} (h : s.size = 0) : s.toList.isEmpty = true := by
  rw [Lib.toList_data]
  have := len_size s
  cases e : s.data.toList with
  | nil => rfl
  | cons a l => rw [e, List.length_cons] at this; omega
theorem empty_not {s : ByteArray} (h : ¬ s.size = 0) : s.toList.isEmpty = false := by
  rw [Lib.toList_data]
  have := len_size s
  cases e : s.data.toList with
  | nil => rw [e, List.length_nil] at this; omega
  | cons a l => rfl

theorem version_any (v : Int) (w : World) : Calls Tryz.prog 46 #[.int .i64 v] w fun e w' => e = .returned (.bool (verB v)) ∧ w' = w := by
  by_cases h1 : 1 ≤ v
  · by_cases h2 : v ≤ 1000
    · have E := hide (verB_is h1 h2)
      go_enter Tryz.func46, Tryz.ntmps46
      go_wp2
      go_ret
      exact ⟨by rw [E.out]; rfl, rfl⟩
    · have E := hide (verB_not (v := v) (Or.inr (by omega)))
      go_enter Tryz.func46, Tryz.ntmps46
      go_wp2
      go_ret
      exact ⟨by rw [E.out]; rfl, rfl⟩
  · have E := hide (verB_not (v := v) (Or.inl (by omega)))
    go_enter Tryz.func46, Tryz.ntmps46
    go_wp2
    go_ret
    exact ⟨by rw [E.out]; rfl, rfl⟩

set_option maxHeartbeats 4000000 in
theorem check_any (nm cd : ByteArray) (v : Int) (w : World) (hn : nm.size ≤ 140737488351232) (hc : cd.size ≤ 140737488351232) :
    Calls Tryz.prog 107 #[.agg (imgC nm v cd)] w fun e w' => e = .returned (errV 63 (imgE nm v cd)) ∧ Below w.heap.size w w' := by
  have HB := hide (below_new w (.cells (imgC nm v cd) 77))
  have HG := hide (blk_new w (.cells (imgC nm v cd) 77))
  by_cases h0 : nm.size = 0
  · have E := hide (imgE_shape (nm := nm) (cd := cd) (v := v) (Or.inl h0))
    have h1 := empty_is h0
    clear h0
    unfold imgC at HB ⊢
    go_enter Tryz.func107, Tryz.ntmps107
    go_wp2
    go_ret
    exact ⟨by rw [E.out]; rfl, HB.out⟩
  · have h1 := empty_not h0
    have H0 := hide h0
    clear h0
    unfold imgC at HB HG ⊢
    go_enter Tryz.func107, Tryz.ntmps107
    go_wp2_with (fail)
    refine (letters_any nm _).mono ?_
    rintro e w1 ⟨rfl, hb1⟩
    have HB1 := hide (below_on HB.out hb1)
    have HG1 := hide (blk_below HG.out hb1)
    clear hb1 HB HG
    obtain ⟨c10, c11, c12⟩ := img_cells HG1.out
    cases ha : letS nm with
    | false =>
      have E := hide (imgE_shape (nm := nm) (cd := cd) (v := v) (Or.inr (Or.inl ha)))
      clear ha
      go_wp2
      go_ret
      exact ⟨by rw [E.out]; rfl, HB1.out⟩
    | true =>
      have HA := hide ha
      clear ha
      go_wp2_with (fail)
      refine (letters_any cd _).mono ?_
      rintro e w2 ⟨rfl, hb2⟩
      have HB2 := hide (below_on HB1.out hb2)
      have HG2 := hide (blk_below HG1.out hb2)
      clear hb2 HB1 HG1 c10 c11 c12
      obtain ⟨c20, c21, c22⟩ := img_cells HG2.out
      cases hb : letS cd with
      | false =>
        have E := hide (imgE_shape (nm := nm) (cd := cd) (v := v) (Or.inr (Or.inr hb)))
        clear hb
        go_wp2
        go_ret
        exact ⟨by rw [E.out]; rfl, HB2.out⟩
      | true =>
        have HC := hide hb
        clear hb
        by_cases h8 : 8 < nm.size
        · have E := hide (imgE_full (v := v) H0.out HA.out HC.out (Or.inl h8))
          have h8' : (8 : Int) < nm.size := by omega
          clear h8
          go_wp2
          go_ret
          exact ⟨by rw [E.out]; rfl, HB2.out⟩
        · have h8' : ¬ (8 : Int) < nm.size := by omega
          by_cases h9 : 8 < cd.size
          · have E := hide (imgE_full (v := v) H0.out HA.out HC.out (Or.inr h9))
            have h9' : (8 : Int) < cd.size := by omega
            clear h8 h9
            go_wp2
            go_ret
            exact ⟨by rw [E.out]; rfl, HB2.out⟩
          · have h9' : ¬ (8 : Int) < cd.size := by omega
            have HF := hide (show ¬ (8 < nm.size ∨ 8 < cd.size) by omega)
            clear h8 h9
            cases hv : verB v with
            | false =>
              have E := hide (imgE_range H0.out HA.out HC.out HF.out (verB_no hv))
              go_wp2_with (go_at_call 46; refine (version_any v _).mono ?_; rintro e w3 ⟨rfl, rfl⟩; rw [hv])
              go_ret
              exact ⟨by rw [E.out]; rfl, HB2.out⟩
            | true =>
              have E := hide (imgE_none (v := v) H0.out HA.out HC.out HF.out (fun hh => by have := verB_yes hv; omega))
              go_wp2_with (go_at_call 46; refine (version_any v _).mono ?_; rintro e w3 ⟨rfl, rfl⟩; rw [hv])
              go_ret
              exact ⟨by rw [E.out]; rfl, HB2.out⟩
end Go.Proofs.YtgnpffkfbacejaaGreatDoor.Image
namespace Go.Proofs.YtgnpffkfbacejaaGreatDoor.M
open Go.RowKit

theorem decFrom_ge : ∀ (l : List UInt8) (acc m : Nat), Lib.decFrom acc l = some m → acc ≤ m
  | [], acc, m, h => by simp only [Lib.decFrom, Option.some.injEq] at h; omega
  | b :: r, acc, m, h => by
    simp only [Lib.decFrom] at h
    cases hd : Lib.digitVal b with
    | none => rw [hd] at h; cases h
    | some d => rw [hd] at h; have := decFrom_ge r _ m h; omega
theorem decFrom_snoc : ∀ (l : List UInt8) (acc : Nat) (b : UInt8), Lib.decFrom acc (l ++ [b]) = (Lib.decFrom acc l).bind fun m => (Lib.digitVal b).map fun d => m * 10 + d
  | [], acc, b => by
    simp only [List.nil_append, Lib.decFrom, Option.bind_some]
    cases Lib.digitVal b <;> rfl
  | c :: r, acc, b => by
    simp only [List.cons_append, Lib.decFrom]
    cases Lib.digitVal c with
    | none => rfl
    | some d => exact decFrom_snoc r _ b
theorem digit_ofNat {d : Nat} (h : d < 10) : Lib.digitVal (UInt8.ofNat (48 + d)) = some d := by
  have e : (UInt8.ofNat (48 + d)).toNat = 48 + d := by simp; omega
  unfold Lib.digitVal
  rw [e, if_pos (by omega)]
  congr 1
  omega
theorem ofNat_digit {b : UInt8} {d : Nat} (h : Lib.digitVal b = some d) : UInt8.ofNat (48 + d) = b ∧ d < 10 := by
  obtain ⟨h1, h2, rfl⟩ := Lib.digitVal_eq h
  refine ⟨?_, by omega⟩
  rw [show 48 + (b.toNat - 48) = b.toNat by omega]
  exact UInt8.ofNat_toNat
theorem dec_small {n : Nat} (h : n < 10) : Lib.decDigits n = [UInt8.ofNat (48 + n)] := by rw [Lib.decDigits, dif_pos h]
theorem dec_big {n : Nat} (h : ¬ n < 10) : Lib.decDigits n = Lib.decDigits (n / 10) ++ [UInt8.ofNat (48 + n % 10)] := by rw [Lib.decDigits, dif_neg h]
theorem dec_ne (n : Nat) : Lib.decDigits n ≠ [] := by
  by_cases h : n < 10
  · rw [dec_small h]; simp
  · rw [dec_big h]; simp
theorem decFrom_dec : ∀ (k n : Nat), n ≤ k → Lib.decFrom 0 (Lib.decDigits n) = some n
  | k, n, hk => by
    by_cases h : n < 10
    · rw [dec_small h]
      simp only [Lib.decFrom, digit_ofNat h]
      congr 1
      omega
    · cases k with
      | zero => omega
      | succ k =>
        rw [dec_big h, decFrom_snoc, decFrom_dec k (n / 10) (by omega), Option.bind_some, digit_ofNat (Nat.mod_lt _ (by omega))]
        simp only [Option.map_some]
        congr 1
        omega
theorem head_snoc {α : Type} {l : List α} (h : l ≠ []) (b : α) : (l ++ [b]).head? = l.head? := by
  cases l with
  | nil => exact absurd rfl h
  | cons a r => rfl
theorem dec_head : ∀ (k n : Nat), n ≤ k → (Lib.decDigits n).head? = some 48 → n = 0
  | k, n, hk, hh => by
    by_cases h : n < 10
    · rw [dec_small h] at hh
      have e := Option.some.inj hh
      have e2 : (UInt8.ofNat (48 + n)).toNat = 48 := by rw [e]; rfl
      have e3 : (UInt8.ofNat (48 + n)).toNat = 48 + n := by simp; omega
      omega
    · cases k with
      | zero => omega
      | succ k =>
        rw [dec_big h, head_snoc (dec_ne _)] at hh
        have := dec_head k (n / 10) (by omega) hh
        omega
/-- A number of at most four digits, without a needless nought. -/
def numO (l : List UInt8) : Option Nat := if l = [] ∨ 4 < l.length ∨ (l.head? = some 48 ∧ 1 < l.length) then none else Lib.decFrom 0 l
theorem numO_dec {n : Nat} (h : (Lib.decDigits n).length ≤ 4) : numO (Lib.decDigits n) = some n := by
  unfold numO
  rw [if_neg, decFrom_dec n n (Nat.le_refl _)]
  intro hh
  rcases hh with hh | hh | ⟨h1, h2⟩
  · exact dec_ne n hh
  · omega
  · have := dec_head n n (Nat.le_refl _) h1
    subst this
    rw [dec_small (by omega)] at h2
    simp at h2
theorem dec_of : ∀ (k : Nat) (l : List UInt8) (n : Nat), l.length ≤ k → l ≠ [] → (l.head? = some 48 → l.length = 1) → Lib.decFrom 0 l = some n → Lib.decDigits n = l
  | 0, l, n, hk, hne, _, _ => by
    cases l with
    | nil => exact absurd rfl hne
    | cons a r => simp at hk
  | k + 1, l, n, hk, hne, hz, hd => by
    obtain ⟨r, b, rfl⟩ : ∃ r b, l = r ++ [b] := ⟨l.dropLast, l.getLast hne, (List.dropLast_concat_getLast hne).symm⟩
    rw [decFrom_snoc] at hd
    cases hr : Lib.decFrom 0 r with
    | none => rw [hr] at hd; cases hd
    | some m =>
      rw [hr, Option.bind_some] at hd
      cases hb : Lib.digitVal b with
      | none => rw [hb] at hd; cases hd
      | some d =>
        rw [hb] at hd
        have hn : m * 10 + d = n := Option.some.inj hd
        obtain ⟨eb, hd10⟩ := ofNat_digit hb
        by_cases hre : r = []
        · subst hre
          simp only [Lib.decFrom, Option.some.injEq] at hr
          subst hr
          rw [show n = d by omega, dec_small hd10, eb]
          rfl
        · have hh := head_snoc hre b
          have hr48 : r.head? ≠ some 48 := by
            intro h48
            have := hz (by rw [hh]; exact h48)
            cases r with
            | nil => exact hre rfl
            | cons a t => simp at this
          have ih := dec_of k r m (by simp at hk; omega) hre (fun h => absurd h hr48) hr
          have hm : 1 ≤ m := by
            cases r with
            | nil => exact absurd rfl hre
            | cons a t =>
              simp only [Lib.decFrom] at hr
              cases ha : Lib.digitVal a with
              | none => rw [ha] at hr; cases hr
              | some x =>
                rw [ha] at hr
                have hx := decFrom_ge t _ m hr
                obtain ⟨ea, _⟩ := ofNat_digit ha
                have : x ≠ 0 := by
                  intro h0
                  subst h0
                  apply hr48
                  rw [← ea]
                  rfl
                omega
          rw [dec_big (by omega), show n / 10 = m by omega, show n % 10 = d by omega, ih, eb]
theorem itoa_nat (n : Nat) : Lib.itoa n = Lib.decDigits n := by
  unfold Lib.itoa
  rw [if_neg (by omega)]
  rfl
theorem numO_some {l : List UInt8} {n : Nat} (h : numO l = some n) : l ≠ [] ∧ l.length ≤ 4 ∧ (l.head? = some 48 → l.length = 1) ∧ Lib.decFrom 0 l = some n := by
  unfold numO at h
  split at h
  · cases h
  · rename_i hc
    have hne : l ≠ [] := fun e => hc (Or.inl e)
    refine ⟨hne, by omega, fun h48 => ?_, h⟩
    have : ¬ 1 < l.length := fun h1 => hc (Or.inr (Or.inr ⟨h48, h1⟩))
    cases l with
    | nil => exact absurd rfl hne
    | cons a r => simp at this ⊢; exact this
theorem numO_itoa {l : List UInt8} {n : Nat} (h : numO l = some n) : Lib.itoa n = l := by
  obtain ⟨h1, h2, h3, h4⟩ := numO_some h
  rw [itoa_nat]
  exact dec_of l.length l n (Nat.le_refl _) h1 h3 h4
theorem numO_atoi {l : List UInt8} {n : Nat} (h : numO l = some n) : Lib.atoi l = some (n : Int) := by
  obtain ⟨h1, h2, h3, h4⟩ := numO_some h
  cases l with
  | nil => exact absurd rfl h1
  | cons b r =>
    have hb : ∃ d, Lib.digitVal b = some d := by
      simp only [Lib.decFrom] at h4
      cases hd : Lib.digitVal b with
      | none => rw [hd] at h4; cases h4
      | some d => exact ⟨d, rfl⟩
    obtain ⟨d, hd⟩ := hb
    obtain ⟨e1, e2, _⟩ := Lib.digitVal_eq hd
    have n45 : ¬ (b == 45) = true := by
      intro e
      have e := beq_iff_eq.1 e
      subst e
      revert e1
      decide
    have n43 : ¬ (b == 43) = true := by
      intro e
      have e := beq_iff_eq.1 e
      subst e
      revert e1
      decide
    show (if (b == 45) = true then _ else _) = _
    rw [if_neg n45, if_neg n43]
    unfold Lib.decNat
    rw [if_neg (by simp), h4]
    rfl
theorem numO_lt {l : List UInt8} {n : Nat} (h : numO l = some n) : n < 10000 := by
  obtain ⟨h1, h2, h3, h4⟩ := numO_some h
  have := Lib.decFrom_lt l 0 n h4
  have hp : 10 ^ l.length ≤ 10 ^ 4 := Nat.pow_le_pow_right (by omega) h2
  omega

/-- A text cut at its blanks; acc: what stands since the last one. -/
def cutAcc (acc : List UInt8) : List UInt8 → List (List UInt8)
  | [] => [acc]
  | b :: l => if b = 32 then acc :: cutAcc [] l else cutAcc (acc ++ [b]) l
def cutL (l : List UInt8) : List (List UInt8) := cutAcc [] l
theorem cut_none : ∀ (l acc : List UInt8), (32 : UInt8) ∉ l → cutAcc acc l = [acc ++ l]
  | [], acc, _ => by simp [cutAcc]
  | b :: l, acc, h => by
    have hb : ¬ b = 32 := fun e => h (by simp [e])
    rw [cutAcc, if_neg hb, cut_none l _ (fun hm => h (by simp [hm]))]
    simp
theorem cut_hit : ∀ (a acc r : List UInt8), (32 : UInt8) ∉ a → cutAcc acc (a ++ 32 :: r) = (acc ++ a) :: cutAcc [] r
  | [], acc, r, _ => by simp [cutAcc]
  | b :: a, acc, r, h => by
    have hb : ¬ b = 32 := fun e => h (by simp [e])
    rw [List.cons_append, cutAcc, if_neg hb, cut_hit a _ r (fun hm => h (by simp [hm]))]
    simp
theorem cut_len : ∀ (l acc : List UInt8), (cutAcc acc l).length ≤ l.length + 1 ∧ 1 ≤ (cutAcc acc l).length
  | [], acc => by simp [cutAcc]
  | b :: l, acc => by
    rw [cutAcc]
    split
    · have := cut_len l []
      simp only [List.length_cons]
      omega
    · have := cut_len l (acc ++ [b])
      simp only [List.length_cons]
      omega
theorem index_parts : ∀ (l : List UInt8) (c : UInt8), (Lib.indexByte l c = -1 ∧ c ∉ l) ∨ ∃ a r, l = a ++ c :: r ∧ c ∉ a ∧ Lib.indexByte l c = a.length
  | [], c => Or.inl ⟨rfl, by simp⟩
  | b :: l, c => by
    by_cases hb : b = c
    · subst hb
      exact Or.inr ⟨[], l, rfl, by simp, by simp [Lib.indexByte]⟩
    · have hbc : ¬ (b == c) = true := by simpa using hb
      rcases index_parts l c with ⟨h1, h2⟩ | ⟨a, r, rfl, h2, h3⟩
      · refine Or.inl ⟨?_, by simp [h2, Ne.symm hb]⟩
        rw [Lib.indexByte, if_neg hbc, h1]
        rfl
      · refine Or.inr ⟨b :: a, r, rfl, by simp [h2, Ne.symm hb], ?_⟩
        rw [Lib.indexByte, if_neg hbc, h3, if_neg (by simp)]
        simp
theorem split_cut : ∀ (k : Nat) (l : List UInt8), ((cutL l).length ≤ k + 1 → Lib.splitK [32] 0 k l = cutL l) ∧ (k + 1 < (cutL l).length → (Lib.splitK [32] 0 k l).length = k + 1)
  | 0, l => by
    rcases index_parts l 32 with ⟨h1, h2⟩ | ⟨a, r, rfl, h2, h3⟩
    · have e := cut_none l [] h2
      unfold cutL
      rw [e]
      simp [Lib.splitK]
    · have e := cut_hit a [] r h2
      have := cut_len r []
      unfold cutL
      rw [e]
      simp only [List.length_cons]
      exact ⟨fun h => by omega, fun _ => rfl⟩
  | k + 1, l => by
    rcases index_parts l 32 with ⟨h1, h2⟩ | ⟨a, r, rfl, h2, h3⟩
    · have e := cut_none l [] h2
      unfold cutL
      rw [e, Lib.splitK, Lib.index_one, h1, if_pos (by decide)]
      simp
    · have e := cut_hit a [] r h2
      obtain ⟨i1, i2⟩ := split_cut k r
      unfold cutL at i1 i2 ⊢
      rw [e, Lib.splitK, Lib.index_one, h3, if_neg (by simp)]
      have e1 : (a ++ 32 :: r).take (((a.length : Nat) : Int).toNat + 0) = a := by simp
      have e2 : (a ++ 32 :: r).drop (((a.length : Nat) : Int).toNat + [(32 : UInt8)].length) = r := by
        rw [show ((a.length : Nat) : Int).toNat + [(32 : UInt8)].length = a.length + 1 by simp, ← List.drop_drop]
        simp
      rw [e1, e2]
      simp only [List.length_cons, List.nil_append]
      exact ⟨fun h => by rw [i1 (by omega)], fun h => by rw [i2 (by omega)]⟩
/-- What strings.SplitN gives: all parts, or four where there are more. -/
def spcB : ByteArray := { data := #[32] }
def partsB (s : ByteArray) : List ByteArray := Lib.splitB spcB 0 (min 4 (s.size + 1) - 1) s
theorem parts_cut (s : ByteArray) : (partsB s).map (fun x => x.data.toList) = cutL s.data.toList ∨ ((partsB s).length = 4 ∧ 4 < (cutL s.data.toList).length) := by
  have hd := Lib.splitB_data spcB 0 (min 4 (s.size + 1) - 1) s
  have hb : spcB.data.toList = [32] := rfl
  rw [hb] at hd
  have hl := len_size s
  have hc := cut_len s.data.toList []
  obtain ⟨i1, i2⟩ := split_cut (min 4 (s.size + 1) - 1) s.data.toList
  by_cases h : (cutL s.data.toList).length ≤ min 4 (s.size + 1) - 1 + 1
  · left
    rw [← i1 h]
    exact hd
  · right
    have h4 := i2 (by omega)
    rw [← hd, List.length_map] at h4
    unfold cutL at h ⊢
    have e : min 4 (s.size + 1) = 4 := by omega
    rw [e] at h
    refine ⟨?_, by omega⟩
    have : (partsB s).length = min 4 (s.size + 1) - 1 + 1 := h4
    omega
end Go.Proofs.YtgnpffkfbacejaaGreatDoor.M
namespace Go.Proofs.YtgnpffkfbacejaaGreatDoor.Image
open Go.ChangeShapes Go.WideShapes Go.ChangeAt Go.RowKit
open Go.Proofs.YtgnpffkfbacejaaGreatDoor.M
set_option linter.unusedVariables false

/-- The table of powers of ten is there, and the error of a text that is no number is some error's value. -/
def Has (w : World) : Prop :=
  (4 < w.heap.size ∧ ∀ nm : String, Tryz.prog.globalNamed nm = some 4 → w.var? Tryz.prog nm = some (Lib.pow10Tab.map fun z => Value.int .u64 z).toArray) ∧
    ∃ tp p, w.cell? ⟨2, 0, none⟩ = some (.iface tp p)
theorem Has.below {w w' : World} (h : Has w) (hb : Below w.heap.size w w') : Has w' := by
  obtain ⟨⟨h1, h2⟩, tp, p, h3⟩ := h
  refine ⟨⟨Nat.lt_of_lt_of_le h1 hb.size, fun nm hg => var?_below hb hg h1 (h2 nm hg)⟩, tp, p, ?_⟩
  rw [hb.cell (p := ⟨2, 0, none⟩) (World.block_lt_of_cell? w _ h3)]
  exact h3

theorem itoa_any (n : Int) (w : World) (h0 : -9223372036854775808 ≤ n) (h1 : n ≤ 9223372036854775807) (hh : Has w) :
    Calls Tryz.prog 47 #[.int .i64 n] w fun e w' => e = .returned (.string { data := (Lib.itoa n).toArray }) ∧ Below w.heap.size w w' :=
  (Any.strconv_Itoa Tryz.lays171 n h0 h1 w (hh.1.2 _ (by kernel_rfl))).mono fun _ _ ⟨he, k, os, hw⟩ => ⟨he, by
    rw [hw]
    exact ⟨rfl, rfl, rfl, by show w.heap.size ≤ (w.heap ++ os).size; rw [Array.size_append]; omega, fun j hj => by show (w.heap ++ os)[j]? = w.heap[j]?; rw [Array.getElem?_append_left hj]⟩⟩
theorem atoi_some (s : ByteArray) (n : Int) (w : World) (hl : s.size ≤ 18) (h : Lib.atoi s.data.toList = some n) :
    Calls Tryz.prog 52 #[.string s] w fun e w' => e = .returned (.tuple #[.int .i64 n, .nilIface]) ∧ Below w.heap.size w w' :=
  (Any.strconv_Atoi (ρ := Tryz.lays172_ren) { Tryz.lays172 with } s n hl h w).mono fun _ _ ⟨he, t, hw⟩ => ⟨he, by rw [hw]; exact Lib.bytesWorld_below _ _ _⟩
theorem atoi_none (s : ByteArray) (w : World) (hl : s.size ≤ 18) (h : Lib.atoi s.data.toList = none) (hh : Has w) :
    Calls Tryz.prog 52 #[.string s] w fun e w' => (∃ (T : TypeId) (a : Addr), e = .returned (.tuple #[.int .i64 0, .iface T (.pointer (some a))])) ∧ Below w.heap.size w w' := by
  obtain ⟨_, tp, p, h3⟩ := hh
  exact (Any.strconv_Atoi_err Tryz.lays172 s hl h (.iface tp p) w h3 (Or.inr ⟨tp, p, rfl⟩)).mono fun _ _ ⟨N, he, _, _, hb⟩ => ⟨⟨_, _, he⟩, hb⟩
theorem clone_any (s : ByteArray) (w : World) (hl : s.size ≤ 140737488351232) :
    Calls Tryz.prog 48 #[.string s] w fun e w' => e = .returned (.string s) ∧ Below w.heap.size w w' := by
  go_enter Tryz.func48, Tryz.ntmps48
  go_wp2_with (go_at_call 71; refine (Any.stringslite_Clone Tryz.lays316 s _ ?_).mono ?_; omega; rintro e w' ⟨rfl, hb⟩)
  go_ret
  exact ⟨rfl, hb⟩
end Go.Proofs.YtgnpffkfbacejaaGreatDoor.Image
namespace Go.Proofs.YtgnpffkfbacejaaGreatDoor.Log
open Go.ChangeShapes Go.WideShapes Go.ChangeAt Go.RowKit
open Go.Proofs.YtgnpffkfbacejaaGreatDoor.M
set_option linter.unusedVariables false

/-- An int that a machine has. -/
theorem hi_of {n : Int} (h : (Lit.int .i64 n).wf = true) : n ≤ 9223372036854775807 := by
  simp [Lit.wf, IntKind.min, IntKind.max, IntKind.bits, IntKind.signed] at h
  omega
structure Core (Lg : World → Nat → Value → (Nat → Prop) → LS → Prop) : Prop where
  has : ∀ {W : World} {B : Nat} {p : Value} {S : Nat → Prop} {j : LS}, Lg W B p S j → ∀ b, S b → B ≤ b ∧ b < W.heap.size
  only : ∀ {W W' : World} {B : Nat} {p : Value} {S T : Nat → Prop} {j : LS}, Lg W B p S j → Only T W W' → (∀ b, S b → ¬ T b) → Lg W' B p S j
  ok : ∀ {W : World} {B : Nat} {p : Value} {S : Nat → Prop} {j : LS}, Lg W B p S j → OkL j
  new : ∀ (w : World) (B : Nat), B ≤ w.heap.size → Calls Tryz.prog 5 #[] w fun e w' => ∃ p S, e = .returned p ∧ Lg w' B p S newL ∧ (∀ b, S b → w.heap.size ≤ b) ∧ Below w.heap.size w w'
theorem Core.below {Lg : World → Nat → Value → (Nat → Prop) → LS → Prop} (L : Core Lg) {W W' : World} {B : Nat} {p : Value} {S : Nat → Prop} {j : LS} (h : Lg W B p S j) (hb : Below W.heap.size W W') : Lg W' B p S j :=
  L.only h (Only.of_below (S := fun _ => False) hb) (fun _ _ hf => hf)
/-- What Raise does; n: how many bytes the record has. -/
def RaiseLaw (Lg : World → Nat → Value → (Nat → Prop) → LS → Prop) : Prop :=
  ∀ (p : Value) (S : Nat → Prop) (j : LS) (nm : ByteArray) (v : Int) (w : World) (B : Nat), Lg w B p S j → nm.size ≤ 140737488351232 → Image.Has w → B ≤ w.heap.size →
    Calls Tryz.prog 6 #[p, .string nm, .int .i64 v] w fun e w' => ∃ S' n, 2 ≤ n ∧ n ≤ 1000 ∧ e = .returned (.tuple #[.bool (lraB j nm v), errV 63 (lraE j nm v)]) ∧ Lg w' B p S' (lraT j nm v n) ∧ Only S w w' ∧ (∀ b, S' b → S b ∨ w.heap.size ≤ b)
/-- What Sync does. -/
def SyncLaw (Lg : World → Nat → Value → (Nat → Prop) → LS → Prop) : Prop :=
  ∀ (p : Value) (S : Nat → Prop) (j : LS) (w : World) (B : Nat), Lg w B p S j → B ≤ w.heap.size →
    Calls Tryz.prog 7 #[p] w fun e w' => ∃ S', e = .returned (errV 63 (synE j)) ∧ Lg w' B p S' (synT j) ∧ Only S w w' ∧ (∀ b, S' b → S b ∨ w.heap.size ≤ b)
/-- What Fail does. -/
def FailLaw (Lg : World → Nat → Value → (Nat → Prop) → LS → Prop) : Prop :=
  ∀ (p : Value) (S : Nat → Prop) (j : LS) (n : Int) (w : World) (B : Nat), Lg w B p S j → n ≤ 9223372036854775807 → B ≤ w.heap.size →
    Calls Tryz.prog 12 #[p, .int .i64 n] w fun e w' => ∃ S', e = .returned (.tuple #[]) ∧ Lg w' B p S' (faiT j n) ∧ Only S w w' ∧ (∀ b, S' b → S b ∨ w.heap.size ≤ b)
/-- What Crash does. -/
def CrashLaw (Lg : World → Nat → Value → (Nat → Prop) → LS → Prop) : Prop :=
  ∀ (p : Value) (S : Nat → Prop) (j : LS) (n : Int) (w : World) (B : Nat), Lg w B p S j → B ≤ w.heap.size →
    Calls Tryz.prog 8 #[p, .int .i64 n] w fun e w' => ∃ S', e = .returned (.tuple #[]) ∧ Lg w' B p S' (craT j n) ∧ Only S w w' ∧ (∀ b, S' b → S b ∨ w.heap.size ≤ b)
/-- What Least, Bytes and Safe tell. -/
def LeastLaw (Lg : World → Nat → Value → (Nat → Prop) → LS → Prop) : Prop :=
  ∀ (p : Value) (S : Nat → Prop) (j : LS) (nm : ByteArray) (w : World) (B : Nat), Lg w B p S j → nm.size ≤ 140737488351232 →
    Calls Tryz.prog 9 #[p, .string nm] w fun e w' => e = .returned (.tuple #[.int .i64 (leaV j.f nm), errV 63 (leaE nm)]) ∧ Below w.heap.size w w'
def BytesLaw (Lg : World → Nat → Value → (Nat → Prop) → LS → Prop) : Prop :=
  ∀ (p : Value) (S : Nat → Prop) (j : LS) (w : World) (B : Nat), Lg w B p S j →
    Calls Tryz.prog 10 #[p] w fun e w' => e = .returned (.int .i64 j.bytes) ∧ Below w.heap.size w w'
def SafeLaw (Lg : World → Nat → Value → (Nat → Prop) → LS → Prop) : Prop :=
  ∀ (p : Value) (S : Nat → Prop) (j : LS) (w : World) (B : Nat), Lg w B p S j →
    Calls Tryz.prog 11 #[p] w fun e w' => e = .returned (.int .i64 j.safe) ∧ Below w.heap.size w w'
end Go.Proofs.YtgnpffkfbacejaaGreatDoor.Log
namespace Go.Proofs.YtgnpffkfbacejaaGreatDoor.M
open Go.RowKit Go.ChangeShapes Go.WideShapes Go.ChangeAt

/-- A thing in memory: its blocks, from B on, and what is so of it. -/
structure Thing (B : Nat) where
  F : Nat → Prop
  P : World → Prop
  has : ∀ {W : World}, P W → ∀ b, F b → B ≤ b ∧ b < W.heap.size
  st : ∀ {W W' : World} {T : Nat → Prop}, P W → Only T W W' → (∀ b, F b → ¬ T b) → P W'
/-- Some things that lie apart, above what was there. -/
structure Sep (w0 : World) (B : Nat) (its : List (Thing B)) (W : World) : Prop where
  ok : ∀ it ∈ its, it.P W
  ap : its.Pairwise (fun a b => ∀ k, a.F k → ¬ b.F k)
  lo : Below B w0 W
  hb : B ≤ W.heap.size
section
variable {w0 W W' : World} {B : Nat} {its r : List (Thing B)} {i i' a b c d : Thing B}
theorem Sep.nil (h : Below B w0 W) (hb : B ≤ W.heap.size) : Sep w0 B [] W := ⟨fun it h => (by cases h), List.Pairwise.nil, h, hb⟩
theorem Sep.below (h : Sep w0 B its W) (hb : Below W.heap.size W W') : Sep w0 B its W' :=
  ⟨fun it hi => it.st (h.ok it hi) (Only.of_below (S := fun _ => False) hb) (fun _ _ hf => hf), h.ap, h.lo.trans (hb.mono h.hb), Nat.le_trans h.hb hb.size⟩
theorem Sep.drew (h : Sep w0 B its W) : Sep w0 B its W.drew := h.below (Below.drew (Below.refl _ _))
theorem Sep.perm (h : Sep w0 B its W) (hp : its.Perm r) : Sep w0 B r W :=
  ⟨fun it hi => h.ok it (hp.mem_iff.2 hi), (hp.pairwise_iff (fun hxy k hk hx => hxy k hx hk)).1 h.ap, h.lo, h.hb⟩
theorem Sep.step (h : Sep w0 B (i :: r) W) (hn : i'.P W') (ho : Only i.F W W') (hf : ∀ k, i'.F k → i.F k ∨ W.heap.size ≤ k) : Sep w0 B (i' :: r) W' := by
  obtain ⟨h1, h2⟩ := List.pairwise_cons.1 h.ap
  refine ⟨fun it hi => ?_, List.pairwise_cons.2 ⟨fun it hi k hk hit => ?_, h2⟩, h.lo.trans (ho.below h.hb (fun k hk => (i.has (h.ok i (List.mem_cons_self ..)) k hk).1)), Nat.le_trans h.hb ho.size⟩
  · rcases List.mem_cons.1 hi with rfl | hi
    · exact hn
    · exact it.st (h.ok it (List.mem_cons_of_mem _ hi)) ho (fun k hk hs => h1 it hi k hs hk)
  · rcases hf k hk with h3 | h3
    · exact h1 it hi k h3 hit
    · have := (it.has (h.ok it (List.mem_cons_of_mem _ hi)) k hit).2; omega
theorem Sep.step1 (h : Sep w0 B (a :: i :: r) W) (hn : i'.P W') (ho : Only i.F W W') (hf : ∀ k, i'.F k → i.F k ∨ W.heap.size ≤ k) : Sep w0 B (a :: i' :: r) W' :=
  ((h.perm (List.Perm.swap i a r)).step hn ho hf).perm (List.Perm.swap a i' r)
theorem Sep.step2 (h : Sep w0 B (a :: b :: i :: r) W) (hn : i'.P W') (ho : Only i.F W W') (hf : ∀ k, i'.F k → i.F k ∨ W.heap.size ≤ k) : Sep w0 B (a :: b :: i' :: r) W' :=
  ((h.perm ((List.Perm.swap i b r).cons a)).step1 hn ho hf).perm ((List.Perm.swap b i' r).cons a)
theorem Sep.step3 (h : Sep w0 B (a :: b :: c :: i :: r) W) (hn : i'.P W') (ho : Only i.F W W') (hf : ∀ k, i'.F k → i.F k ∨ W.heap.size ≤ k) : Sep w0 B (a :: b :: c :: i' :: r) W' :=
  ((h.perm (((List.Perm.swap i c r).cons b).cons a)).step2 hn ho hf).perm (((List.Perm.swap c i' r).cons b).cons a)
/-- One more, all of new blocks. -/
theorem Sep.add (h : Sep w0 B its W) (hb : Below W.heap.size W W') (hn : i.P W') (hf : ∀ k, i.F k → W.heap.size ≤ k) : Sep w0 B (i :: its) W' := by
  have h1 := h.below hb
  refine ⟨fun it hi => ?_, List.pairwise_cons.2 ⟨fun it hi k hk hit => ?_, h1.ap⟩, h1.lo, h1.hb⟩
  · rcases List.mem_cons.1 hi with rfl | hi
    · exact hn
    · exact h1.ok it hi
  · have := hf k hk
    have := (it.has (h.ok it hi) k hit).2
    omega
theorem Sep.tail (h : Sep w0 B (i :: r) W) : Sep w0 B r W := ⟨fun it hi => h.ok it (List.mem_cons_of_mem _ hi), (List.pairwise_cons.1 h.ap).2, h.lo, h.hb⟩
theorem Sep.p0 (h : Sep w0 B (a :: r) W) : a.P W := h.ok a (by simp)
theorem Sep.p1 (h : Sep w0 B (a :: b :: r) W) : b.P W := h.ok b (by simp)
theorem Sep.p2 (h : Sep w0 B (a :: b :: c :: r) W) : c.P W := h.ok c (by simp)
theorem Sep.p3 (h : Sep w0 B (a :: b :: c :: d :: r) W) : d.P W := h.ok d (by simp)
/-- A block as a thing. -/
def blkI (B b : Nat) (hB : B ≤ b) (o : Obj) : Thing B where
  F := fun k => k = b
  P := fun W => W.heap[b]? = some o
  has := fun h k hk => ⟨by rw [hk]; exact hB, by rw [hk]; exact blk_lt h⟩
  st := fun h ho hn => ho.heap h (hn b rfl)
theorem Sep.alloc (h : Sep w0 B its W) (o : Obj) : Sep w0 B (blkI B W.heap.size h.hb o :: its) (W.alloc o) :=
  h.add (below_new W o) (blk_new W o) (fun k hk => by rw [show k = W.heap.size from hk]; exact Nat.le_refl _)
theorem Sep.allocz (h : Sep w0 B its W) (hz : B ≤ W.heap.size) (o : Obj) : Sep w0 B (blkI B W.heap.size hz o :: its) (W.alloc o) := h.alloc o
end
end Go.Proofs.YtgnpffkfbacejaaGreatDoor.M
namespace Go.Proofs.YtgnpffkfbacejaaGreatDoor.Log
open Go.ChangeShapes Go.WideShapes Go.ChangeAt Go.RowKit
open Go.Proofs.YtgnpffkfbacejaaGreatDoor.M
set_option linter.unusedVariables false

def logI {Lg : World → Nat → Value → (Nat → Prop) → LS → Prop} (L : Core Lg) (B : Nat) (p : Value) (S : Nat → Prop) (j : LS) : Thing B where
  F := S
  P := fun W => Lg W B p S j
  has := fun h => L.has h
  st := fun h ho hn => L.only h ho hn
section Ob
variable {Lg : World → Nat → Value → (Nat → Prop) → LS → Prop} {LL : Core Lg} {w0 W : World} {B : Nat} {its : List (Thing B)} {p : Value} {S : Nat → Prop} {j : LS}
theorem sep_new (LL : Core Lg) (h : Sep w0 B its W) :
    Calls Tryz.prog 5 #[] W fun e w' => ∃ p S, e = .returned p ∧ Sep w0 B (logI LL B p S newL :: its) w' := by
  refine (LL.new W B h.hb).mono ?_
  rintro e w' ⟨p, S, rfl, hk, hf, hb⟩
  exact ⟨p, S, rfl, Sep.add (i := logI LL B p S _) h hb hk hf⟩
theorem sep_rai (RL : RaiseLaw Lg) (h : Sep w0 B (logI LL B p S j :: its) W) (nm : ByteArray) (v : Int) (hn : nm.size ≤ 140737488351232) (hh : Image.Has W) :
    Calls Tryz.prog 6 #[p, .string nm, .int .i64 v] W fun e w' => ∃ S' n, 2 ≤ n ∧ n ≤ 1000 ∧ e = .returned (.tuple #[.bool (lraB j nm v), errV 63 (lraE j nm v)]) ∧ Sep w0 B (logI LL B p S' (lraT j nm v n) :: its) w' := by
  refine (RL p S j nm v W B h.p0 hn hh h.hb).mono ?_
  rintro e w' ⟨S', n, h1, h2, rfl, hk, ho, hf⟩
  exact ⟨S', n, h1, h2, rfl, h.step (i' := logI LL B p S' _) hk ho hf⟩
theorem sep_syn (SL : SyncLaw Lg) (h : Sep w0 B (logI LL B p S j :: its) W) :
    Calls Tryz.prog 7 #[p] W fun e w' => ∃ S', e = .returned (errV 63 (synE j)) ∧ Sep w0 B (logI LL B p S' (synT j) :: its) w' := by
  refine (SL p S j W B h.p0 h.hb).mono ?_
  rintro e w' ⟨S', rfl, hk, ho, hf⟩
  exact ⟨S', rfl, h.step (i' := logI LL B p S' _) hk ho hf⟩
theorem sep_fai (FL : FailLaw Lg) (h : Sep w0 B (logI LL B p S j :: its) W) (n : Int) (hn : n ≤ 9223372036854775807) :
    Calls Tryz.prog 12 #[p, .int .i64 n] W fun e w' => ∃ S', e = .returned (.tuple #[]) ∧ Sep w0 B (logI LL B p S' (faiT j n) :: its) w' := by
  refine (FL p S j n W B h.p0 hn h.hb).mono ?_
  rintro e w' ⟨S', rfl, hk, ho, hf⟩
  exact ⟨S', rfl, h.step (i' := logI LL B p S' _) hk ho hf⟩
theorem sep_cra (CL : CrashLaw Lg) (h : Sep w0 B (logI LL B p S j :: its) W) (n : Int) :
    Calls Tryz.prog 8 #[p, .int .i64 n] W fun e w' => ∃ S', e = .returned (.tuple #[]) ∧ Sep w0 B (logI LL B p S' (craT j n) :: its) w' := by
  refine (CL p S j n W B h.p0 h.hb).mono ?_
  rintro e w' ⟨S', rfl, hk, ho, hf⟩
  exact ⟨S', rfl, h.step (i' := logI LL B p S' _) hk ho hf⟩
theorem sep_lea (LE : LeastLaw Lg) (h : Sep w0 B (logI LL B p S j :: its) W) (nm : ByteArray) (hn : nm.size ≤ 140737488351232) :
    Calls Tryz.prog 9 #[p, .string nm] W fun e w' => e = .returned (.tuple #[.int .i64 (leaV j.f nm), errV 63 (leaE nm)]) ∧ Sep w0 B (logI LL B p S j :: its) w' := by
  refine (LE p S j nm W B h.p0 hn).mono ?_
  rintro e w' ⟨rfl, hb⟩
  exact ⟨rfl, h.below hb⟩
theorem sep_byt (BL : BytesLaw Lg) (h : Sep w0 B (logI LL B p S j :: its) W) :
    Calls Tryz.prog 10 #[p] W fun e w' => e = .returned (.int .i64 j.bytes) ∧ Sep w0 B (logI LL B p S j :: its) w' := by
  refine (BL p S j W B h.p0).mono ?_
  rintro e w' ⟨rfl, hb⟩
  exact ⟨rfl, h.below hb⟩
theorem sep_saf (SF : SafeLaw Lg) (h : Sep w0 B (logI LL B p S j :: its) W) :
    Calls Tryz.prog 11 #[p] W fun e w' => e = .returned (.int .i64 j.safe) ∧ Sep w0 B (logI LL B p S j :: its) w' := by
  refine (SF p S j W B h.p0).mono ?_
  rintro e w' ⟨rfl, hb⟩
  exact ⟨rfl, h.below hb⟩
end Ob
end Go.Proofs.YtgnpffkfbacejaaGreatDoor.Log
namespace Go.Proofs.YtgnpffkfbacejaaGreatDoor.M
set_option linter.unusedVariables false

/-- The greatest version of some records. -/
def mxR (rs : List Rcd) : Int := rs.foldl (fun m r => stepM m r.2.1) 0
theorem mxR_snoc (rs : List Rcd) (r : Rcd) : mxR (rs ++ [r]) = stepM (mxR rs) r.2.1 := by unfold mxR; rw [List.foldl_append]; rfl
theorem fold_ge : ∀ (rs : List Rcd) (m : Int), 0 ≤ m → m ≤ rs.foldl (fun m r => stepM m r.2.1) m
  | [], m, _ => Int.le_refl _
  | r :: rs, m, h => by
    have h1 := stepM_ge (v := r.2.1) h
    exact Int.le_trans h1.2 (fold_ge rs _ h1.1)
theorem mxR_ge (rs : List Rcd) : 0 ≤ mxR rs := fold_ge rs 0 (Int.le_refl _)
theorem mxR_take (rs : List Rcd) (n : Nat) : mxR (rs.take n) ≤ mxR rs := by
  have e : mxR rs = (rs.drop n).foldl (fun m r => stepM m r.2.1) (mxR (rs.take n)) := by
    unfold mxR
    rw [← List.foldl_append, List.take_append_drop]
  rw [e]
  exact fold_ge _ _ (mxR_ge _)
theorem cnt_one {nm : ByteArray} (hn : nameB nm = true) : ∀ (n : Nat) (rs : List Rcd), rs.length = n → (∀ r ∈ rs, r.1 = nm) → cntL rs = (oneF nm (mxR rs), oneK (mxR rs))
  | 0, rs, h0, _ => by
    have : rs = [] := List.length_eq_zero_iff.1 h0
    subst this
    show ((fun _ => 0 : ByteArray → Int), 0) = (oneF nm 0, oneK 0)
    rw [oneF_zero]
    rfl
  | n + 1, rs, h0, h => by
    obtain ⟨r, hr⟩ : ∃ r, rs[n]? = some r := ⟨rs[n]'(by omega), List.getElem?_eq_getElem (by omega)⟩
    have e : rs = rs.take n ++ [r] := by
      have := take_one hr
      rw [List.take_of_length_le (by omega)] at this
      exact this
    have h1 := cnt_one hn n (rs.take n) (by rw [List.length_take]; omega) (fun q hq => h q (List.mem_of_mem_take hq))
    have hrn := h r (List.mem_of_getElem? hr)
    rw [e, cntL_snoc, mxR_snoc, h1, hrn]
    obtain ⟨_, _, q3, q4⟩ := raise_one (nm := nm) (m := mxR (rs.take n)) (v := r.2.1) hn (mxR_ge _)
    simp only [q3, q4]
/-- All records are of the one name, and the greatest is most; there are no more than were raised. -/
structure KpL (nm : ByteArray) (most : Int) (i : Nat) (j : LS) : Prop where
  one : ∀ r ∈ j.rs, r.1 = nm
  big : mxR j.rs = most
  few : j.rs.length ≤ i
  nam : nameB nm = false → j.rs = []
section
variable {nm : ByteArray} {most v : Int} {i n : Nat} {j : LS}
theorem kp_new (nm : ByteArray) (n : Int) : KpL nm 0 0 (faiT newL n) := ⟨fun r h => (by cases h), rfl, Nat.le_refl _, fun _ => rfl⟩
theorem kp_rise (h : KpL nm most i j) (hn : nameB nm = true) : j.f = oneF nm most ∧ j.k = oneK most ∧ 0 ≤ most := by
  have hc := cnt_one hn j.rs.length j.rs rfl h.one
  rw [h.big] at hc
  have := mxR_ge j.rs
  rw [h.big] at this
  exact ⟨congrArg Prod.fst hc, congrArg Prod.snd hc, this⟩
/-- Raised: what is another one is more than was; where it is not, and nothing is wrong, it is no more. -/
theorem kp_raise (h : KpL nm most i j) (hi : i < 25) : (lraB j nm v = true → most < v ∧ lraE j nm v = 0 ∧ KpL nm v (i + 1) (lraT j nm v n)) ∧ (lraB j nm v = false → KpL nm most (i + 1) (lraT j nm v n) ∧ (lraE j nm v = 0 → ¬ most < v)) := by
  have hB : lraB j nm v = true → lraG j nm v = true ∧ ¬ j.fail = 0 := by
    intro hb
    unfold lraB at hb
    rw [Bool.and_eq_true] at hb
    exact ⟨hb.1, of_decide_eq_true hb.2⟩
  constructor
  · intro hb
    obtain ⟨hg, hf⟩ := hB hb
    obtain ⟨g1, g2, g3⟩ := lraG_iff.1 hg
    obtain ⟨b1, b2, b3, b4⟩ := raiB_iff.1 g2
    obtain ⟨k1, k2, k3⟩ := kp_rise h b1
    rw [k1, oneF_at] at b3
    have hE : lraE j nm v = 0 := by
      unfold lraE
      rw [g1, if_neg Bool.false_ne_true, if_pos g2, if_pos g3, if_neg hf]
    refine ⟨b3, hE, ?_⟩
    unfold lraT
    rw [if_pos hg, if_neg hf]
    refine ⟨fun r hr => ?_, ?_, ?_, fun hc => by rw [b1] at hc; cases hc⟩
    · rcases List.mem_append.1 hr with hr | hr
      · exact h.one r hr
      · rw [List.mem_singleton.1 hr]
    · show mxR (j.rs ++ [(nm, v, n)]) = v
      rw [mxR_snoc, h.big, stepM_eq k3, if_pos ⟨b2.1, b2.2, b3⟩]
    · show (j.rs ++ [(nm, v, n)]).length ≤ i + 1
      rw [List.length_append]
      have := h.few
      simp
      omega
  · intro hb
    have hrs : (lraT j nm v n).rs = j.rs := by
      unfold lraT
      by_cases hg : lraG j nm v = true
      · rw [if_pos hg]
        by_cases hf : j.fail = 0
        · rw [if_pos hf]
        · exfalso
          have : lraB j nm v = true := by unfold lraB; rw [hg, Bool.true_and]; exact decide_eq_true hf
          rw [hb] at this
          cases this
      · rw [if_neg hg]
    refine ⟨⟨by rw [hrs]; exact h.one, by rw [hrs]; exact h.big, by rw [hrs]; have := h.few; omega, by rw [hrs]; exact h.nam⟩, fun hE hv => ?_⟩
    by_cases hs : j.stop = true
    · unfold lraE at hE
      rw [if_pos hs] at hE
      cases hE
    · have hs' : j.stop = false := by simpa using hs
      by_cases hr : raiB j.f j.k nm v = true
      · have hl : j.rs.length < 30 := by have := h.few; omega
        have hg : lraG j nm v = true := lraG_iff.2 ⟨hs', hr, hl⟩
        have hf : j.fail = 0 := by
          apply Decidable.byContradiction
          intro hf
          have : lraB j nm v = true := by unfold lraB; rw [hg, Bool.true_and]; exact decide_eq_true hf
          rw [hb] at this
          cases this
        unfold lraE at hE
        rw [if_neg hs, if_pos hr, if_pos hl, if_pos hf] at hE
        cases hE
      · unfold lraE at hE
        rw [if_neg hs, if_neg hr] at hE
        apply hr
        unfold raiE at hE
        by_cases h1 : nameB nm = true
        · obtain ⟨k1, k2, k3⟩ := kp_rise h h1
          rw [if_pos h1] at hE
          by_cases h2 : 0 ≤ v ∧ v ≤ 1000
          · refine raiB_iff.2 ⟨h1, h2, by rw [k1, oneF_at]; exact hv, ?_⟩
            rw [k2]
            unfold oneK
            split <;> omega
          · rw [if_neg h2] at hE; cases hE
        · rw [if_neg h1] at hE; cases hE
theorem kp_sync (h : KpL nm most i j) : KpL nm most i (synT j) := by
  have : (synT j).rs = j.rs := by
    unfold synT
    split
    · rfl
    · split <;> rfl
  exact ⟨by rw [this]; exact h.one, by rw [this]; exact h.big, by rw [this]; exact h.few, by rw [this]; exact h.nam⟩
/-- Behind a crash it is none above what was raised. -/
theorem kp_crash (h : KpL nm most i j) (keep : Int) (hn : nameB nm = true) : 0 ≤ (craT j keep).f nm ∧ (craT j keep).f nm ≤ most := by
  have hc := cnt_one hn _ (craT j keep).rs rfl (fun r hr => h.one r (List.mem_of_mem_take hr))
  have hf : (craT j keep).f nm = mxR (craT j keep).rs := by
    show (cntL (craT j keep).rs).1 nm = _
    rw [hc]
    exact oneF_at _ _
  rw [hf]
  refine ⟨mxR_ge _, ?_⟩
  rw [← h.big]
  exact mxR_take _ _
end
end Go.Proofs.YtgnpffkfbacejaaGreatDoor.M
namespace Go.Proofs.YtgnpffkfbacejaaGreatDoor.M
/-- An image as text. -/
def lineB (nm : ByteArray) (v : Int) (cd : ByteArray) : ByteArray := nm ++ spcB ++ { data := (Lib.itoa v).toArray } ++ spcB ++ cd
def lineV (nm : ByteArray) (v : Int) (cd : ByteArray) : ByteArray := if imgE nm v cd = 0 then lineB nm v cd else { data := #[] }
theorem lineV_ok {nm cd : ByteArray} {v : Int} (h : imgE nm v cd = 0) : lineV nm v cd = lineB nm v cd := by unfold lineV; rw [if_pos h]
theorem lineV_bad {nm cd : ByteArray} {v : Int} (h : ¬ imgE nm v cd = 0) : lineV nm v cd = { data := #[] } := by unfold lineV; rw [if_neg h]
/-- The measure of an image. -/
def meaV (nm : ByteArray) (v : Int) (cd : ByteArray) : Int := if imgE nm v cd = 0 then ofFrom 1 (lineB nm v cd).data.toList else 0
theorem meaV_ok {nm cd : ByteArray} {v : Int} (h : imgE nm v cd = 0) : meaV nm v cd = ofFrom 1 (lineB nm v cd).data.toList := by unfold meaV; rw [if_pos h]
theorem meaV_bad {nm cd : ByteArray} {v : Int} (h : ¬ imgE nm v cd = 0) : meaV nm v cd = 0 := by unfold meaV; rw [if_neg h]
/-- Which of two is newer: the fault, and the answer. -/
def newE (nm : ByteArray) (v : Int) (cd : ByteArray) (nm' : ByteArray) (v' : Int) (cd' : ByteArray) : Int :=
  if imgE nm v cd = 0 then (if imgE nm' v' cd' = 0 then (if nm = nm' then 0 else 3) else imgE nm' v' cd') else imgE nm v cd
def newV (nm : ByteArray) (v : Int) (cd : ByteArray) (nm' : ByteArray) (v' : Int) (cd' : ByteArray) : Bool := decide (newE nm v cd nm' v' cd' = 0) && decide (v' < v)
section
variable {nm cd nm' cd' : ByteArray} {v v' : Int}
theorem newE_ok (h : imgE nm v cd = 0) (h' : imgE nm' v' cd' = 0) (hq : nm = nm') : newE nm v cd nm' v' cd' = 0 := by unfold newE; rw [if_pos h, if_pos h', if_pos hq]
theorem newE_name (h : imgE nm v cd = 0) (h' : imgE nm' v' cd' = 0) (hq : ¬ nm = nm') : newE nm v cd nm' v' cd' = 3 := by unfold newE; rw [if_pos h, if_pos h', if_neg hq]
theorem newE_second (h : imgE nm v cd = 0) (h' : ¬ imgE nm' v' cd' = 0) : newE nm v cd nm' v' cd' = imgE nm' v' cd' := by unfold newE; rw [if_pos h, if_neg h']
theorem newE_first (h : ¬ imgE nm v cd = 0) : newE nm v cd nm' v' cd' = imgE nm v cd := by unfold newE; rw [if_neg h]
theorem newV_ok (h : newE nm v cd nm' v' cd' = 0) : newV nm v cd nm' v' cd' = decide (v' < v) := by unfold newV; rw [decide_eq_true h]; rfl
theorem newV_bad (h : ¬ newE nm v cd nm' v' cd' = 0) : newV nm v cd nm' v' cd' = false := by unfold newV; rw [decide_eq_false h]; rfl
end
theorem blk_two (w : World) (o o' : Obj) : ((w.alloc o).alloc o').heap[w.heap.size + 1]? = some o' := by
  have := blk_new (w.alloc o) o'
  simpa using this
theorem dec_len : ∀ (k n : Nat), n < 10 ^ (k + 1) → (Lib.decDigits n).length ≤ k + 1
  | k, n, h => by
    by_cases h10 : n < 10
    · rw [dec_small h10]; simp
    · cases k with
      | zero => omega
      | succ k =>
        rw [dec_big h10, List.length_append]
        have := dec_len k (n / 10) (by rw [Nat.pow_succ] at h; omega)
        simp only [List.length_cons, List.length_nil]
        omega
theorem itoa_four {v : Int} (h1 : 1 ≤ v) (h2 : v ≤ 1000) : ({ data := (Lib.itoa v).toArray } : ByteArray).size ≤ 4 := by
  obtain ⟨n, rfl⟩ : ∃ n : Nat, v = n := ⟨v.toNat, by omega⟩
  rw [itoa_nat]
  have := dec_len 3 n (by omega)
  show (Lib.decDigits n).toArray.size ≤ 4
  simpa using this
end Go.Proofs.YtgnpffkfbacejaaGreatDoor.M
namespace Go.Proofs.YtgnpffkfbacejaaGreatDoor.Image
open Go.ChangeShapes Go.WideShapes Go.ChangeAt Go.RowKit
open Go.Proofs.YtgnpffkfbacejaaGreatDoor.M
set_option linter.unusedVariables false

theorem byte_ext {s t : ByteArray} (h : s.data.toList = t.data.toList) : s = t := by
  cases s; cases t
  congr 1
  exact Array.ext' h
theorem str_ne {s t : ByteArray} (h : ¬ s = t) : (s.toList == t.toList) = false := by
  rw [Lib.toList_data, Lib.toList_data]
  apply beq_eq_false_iff_ne.2
  exact fun e => h (byte_ext e)
theorem str_eq {s t : ByteArray} (h : s = t) : (s.toList == t.toList) = true := by
  subst h
  simp
theorem errV_ne {T : TypeId} {k : Int} (h : ¬ k = 0) : errV T k = .iface T (.int .i64 k) := by unfold errV; rw [if_neg h]

set_option maxHeartbeats 4000000 in
theorem print_any (nm cd : ByteArray) (v : Int) (w : World) (hn : nm.size ≤ 140737488351232) (hc : cd.size ≤ 140737488351232) (hh : Has w) :
    Calls Tryz.prog 81 #[.agg (imgC nm v cd)] w fun e w' => e = .returned (.tuple #[.string (lineV nm v cd), errV 63 (imgE nm v cd)]) ∧ Below w.heap.size w w' := by
  have HB := hide (below_new w (.cells (imgC nm v cd) 77))
  have HG := hide (blk_new w (.cells (imgC nm v cd) 77))
  have HH := hide hh
  clear hh
  unfold imgC at HB HG ⊢
  go_enter Tryz.func81, Tryz.ntmps81
  go_wp2_with (fail)
  refine (check_any nm cd v _ hn hc).mono ?_
  rintro e w1 ⟨rfl, hb1⟩
  have HB1 := hide (below_on HB.out hb1)
  have HG1 := hide (blk_below HG.out hb1)
  clear hb1 HB HG
  obtain ⟨c0, c1, c2⟩ := img_cells HG1.out
  by_cases hE : imgE nm v cd = 0
  · have HL := hide (lineV_ok hE)
    have HE := hide hE
    obtain ⟨z1, z2, z3, z4, z5, z6, z7⟩ := imgE_zero hE
    rw [hE, errV_zero]
    clear hE z1 z2 z3
    have HW := hide (HH.out.below HB1.out)
    have HI : Hid (∀ W, Has W → Calls Tryz.prog 47 #[.int .i64 v] W fun e w' => e = .returned (.string { data := (Lib.itoa v).toArray }) ∧ Below W.heap.size W w') := fun W hW => itoa_any v W (by omega) (by omega) hW
    have hD := itoa_four z6 z7
    rw [show lineB nm v cd = nm ++ spcB ++ { data := (Lib.itoa v).toArray } ++ spcB ++ cd from rfl] at HL
    generalize hDe : ({ data := (Lib.itoa v).toArray } : ByteArray) = D at hD HL HI
    clear hDe z6 z7
    have q1 : ¬ 9223372036854775807 < nm.size + 1 := by omega
    have q2 : ¬ 9223372036854775807 < nm.size + 1 + D.size := by omega
    have q3 : ¬ 9223372036854775807 < nm.size + 1 + D.size + 1 := by omega
    have q4 : ¬ 9223372036854775807 < nm.size + 1 + D.size + 1 + cd.size := by omega
    go_wp2_with (fail)
    go_region_held3 (fun w' => w'.cell? ⟨w.heap.size, 0, none⟩ = some (.string nm) ∧ w'.cell? ⟨w.heap.size, 1, none⟩ = some (.int .i64 v) ∧ w'.cell? ⟨w.heap.size, 2, none⟩ = some (.string cd)) (go_keep)
      (first | (go_at_call 47; refine (HI.out w1.drew (HW.out.below (Below.drew (Below.refl _ _)))).mono ?_; rintro e w2 ⟨rfl, hb2⟩; have HB2 := hide (below_on (w1 := w1.drew) (Below.drew HB1.out) hb2); have HG2 := blk_below (w := w1.drew) HG1.out hb2; clear hb2; obtain ⟨d0, d1, d2⟩ := img_cells HG2; clear HG2))
    go_wp2
    go_ret2
    exact ⟨by rw [HL.out, HE.out]; rfl, HB2.out⟩
  · have HL := hide (lineV_bad hE)
    have HX := hide (errV_ne (T := 63) hE)
    rw [errV_ne hE]
    clear hE
    go_wp2
    go_ret2
    exact ⟨by rw [HL.out, HX.out]; rfl, HB1.out⟩

theorem line_size (nm cd : ByteArray) (v : Int) (h : imgE nm v cd = 0) : (lineB nm v cd).size ≤ 22 := by
  obtain ⟨z1, z2, z3, z4, z5, z6, z7⟩ := imgE_zero h
  have hD := itoa_four z6 z7
  unfold lineB
  generalize ({ data := (Lib.itoa v).toArray } : ByteArray) = D at hD ⊢
  have hs : spcB.size = 1 := rfl
  rw [ByteArray.size_append, ByteArray.size_append, ByteArray.size_append, ByteArray.size_append, hs]
  omega

set_option maxHeartbeats 4000000 in
theorem measure_any (nm cd : ByteArray) (v : Int) (w : World) (hn : nm.size ≤ 140737488351232) (hc : cd.size ≤ 140737488351232) (hh : Has w) :
    Calls Tryz.prog 56 #[.agg (imgC nm v cd)] w fun e w' => e = .returned (.tuple #[.int .i64 (meaV nm v cd), errV 63 (imgE nm v cd)]) ∧ Below w.heap.size w w' := by
  have HB := hide (below_new w (.cells (imgC nm v cd) 77))
  have HH := hide (hh.below HB.out)
  clear hh
  unfold imgC at HB HH ⊢
  go_enter Tryz.func56, Tryz.ntmps56
  go_wp2_with (fail)
  refine (print_any nm cd v _ hn hc HH.out).mono ?_
  rintro e w1 ⟨rfl, hb1⟩
  have HB1 := hide (below_on HB.out hb1)
  clear hb1 HB
  by_cases hE : imgE nm v cd = 0
  · have HM := hide (meaV_ok hE)
    have HE := hide hE
    rw [lineV_ok hE, hE, errV_zero]
    have hs := line_size nm cd v hE
    clear hE
    go_wp2_with (fail)
    refine (Measure.of_ok _ _ (by omega)).mono ?_
    rintro e w2 ⟨rfl, rfl⟩
    go_wp2
    go_ret2
    exact ⟨by rw [HM.out, HE.out]; rfl, HB1.out⟩
  · have HM := hide (meaV_bad hE)
    have HX := hide (errV_ne (T := 63) hE)
    rw [lineV_bad hE, errV_ne hE]
    clear hE
    go_wp2
    go_ret2
    exact ⟨by rw [HM.out, HX.out]; rfl, HB1.out⟩

end Go.Proofs.YtgnpffkfbacejaaGreatDoor.Image
namespace Go.Proofs.YtgnpffkfbacejaaGreatDoor.Image
open Go.ChangeShapes Go.WideShapes Go.ChangeAt Go.RowKit
open Go.Proofs.YtgnpffkfbacejaaGreatDoor.M
set_option linter.unusedVariables false

theorem info_img : (Tryz.prog.info? 77).map (·.size) = some 3 := by kernel_rfl
/-- An image out of its block. -/
theorem load_img {w : World} {b : Nat} {c : Array Value} {fr : Nat × Nat} (h : w.heap[b]? = some (.cells c 77 fr)) (hs : c.size = 3) : (loadVar 77 ⟨b, 0, none⟩).run Tryz.prog w = .ok (.agg c) w :=
  run_loadVar_row w b _ _ c fr _ h Tryz.underlying77 rfl (by rw [info_img, hs])
theorem three_set {w : World} {b : Nat} {a0 a1 a2 x y z : Value} {t : TypeId} {fr : Nat × Nat} (hg : w.heap[b]? = some (.cells #[a0, a1, a2] t fr)) :
    ((w.setCell ⟨b, 0, none⟩ x).setCell ⟨b, 1, none⟩ y).setCell ⟨b, 2, none⟩ z = w.setRow b #[x, y, z] := by
  rw [setCell_eq_setRow w b 0 _ _ _ x hg]
  have h1 := setRow_heap w b _ (#[a0, a1, a2].setIfInBounds 0 x) t fr hg
  rw [setCell_eq_setRow _ b 1 _ _ _ y h1, setRow_setRow]
  have h2 := setRow_heap w b _ ((#[a0, a1, a2].setIfInBounds 0 x).setIfInBounds 1 y) t fr hg
  rw [setCell_eq_setRow _ b 2 _ _ _ z h2, setRow_setRow]
  rfl
theorem img_free {w : World} {b : Nat} {c : Array Value} {t : TypeId} (h : w.heap[b]? = some (.cells c t)) :
    w.frozen? ⟨b, 0, none⟩ = false ∧ w.frozen? ⟨b, 1, none⟩ = false ∧ w.frozen? ⟨b, 2, none⟩ = false := ⟨frozen_of_row w b 0 _ _ h, frozen_of_row w b 1 _ _ h, frozen_of_row w b 2 _ _ h⟩
theorem res_alone {fn : Func} {p : Tmp} {ty : TypeId} (h : fn.results = #[.cell p ty]) (tmps : Array Value) (P : Program) (w : World) :
    (results fn tmps).run P w = ((asAddr (tmps.getD p undef)).run P w).andThen fun a w1 => (loadVar ty a).run P w1 := by
  simp only [results, h]
  simp [Sem.run_bind, Result.andThen]
theorem results_imgOne {fn : Func} {p : Tmp} (h : fn.results = #[.cell p 77]) (tmps : Array Value) (w : World) (b : Nat) (c : Array Value) (hp : tmps.getD p undef = .pointer (some ⟨b, 0, none⟩))
    (hg : w.heap[b]? = some (.cells c 77)) (hs : c.size = 3) : (results fn tmps).run Tryz.prog w = .ok (.agg c) w := by
  rw [res_alone h, hp]
  simp [asAddr, load_img hg hs, Result.andThen]

/-- What lies in a cell, whatever it is. -/
def cellAt (w : World) (b i : Nat) : Value := (w.cell? ⟨b, i, none⟩).getD undef
theorem cellAt_of {w : World} {b i : Nat} {v : Value} (h : w.cell? ⟨b, i, none⟩ = some v) : w.cell? ⟨b, i, none⟩ = some (cellAt w b i) := by unfold cellAt; rw [h]; rfl
/-- Where the image lies that came in, where the answer will lie, and that all else is as it was. -/
def InvC (w0 : World) (P R : Nat) (nm : ByteArray) (v : Int) (cd : ByteArray) (W : World) : Prop :=
  Below w0.heap.size w0 W ∧ (w0.heap.size ≤ P ∧ w0.heap.size ≤ R ∧ P ≠ R) ∧ W.heap[P]? = some (.cells #[.string nm, .int .i64 v, .string cd] 77) ∧ ∃ x y z, W.heap[R]? = some (.cells #[x, y, z] 77)
section
variable {w0 W W' : World} {P R : Nat} {nm cd : ByteArray} {v : Int}
theorem invC_S (h : InvC w0 P R nm v cd W) : W.cell? ⟨P, 0, none⟩ = some (.string nm) ∧ W.cell? ⟨P, 1, none⟩ = some (.int .i64 v) ∧ W.cell? ⟨P, 2, none⟩ = some (.string cd)
    ∧ W.frozen? ⟨R, 0, none⟩ = false ∧ W.frozen? ⟨R, 1, none⟩ = false ∧ W.frozen? ⟨R, 2, none⟩ = false
    ∧ W.cell? ⟨R, 0, none⟩ = some (cellAt W R 0) ∧ W.cell? ⟨R, 1, none⟩ = some (cellAt W R 1) ∧ W.cell? ⟨R, 2, none⟩ = some (cellAt W R 2) ∧ InvC w0 P R nm v cd W := by
  have h' := h
  obtain ⟨h1, h2, h3, x, y, z, h4⟩ := h
  obtain ⟨c0, c1, c2⟩ := img_cells (nm := nm) (v := v) (cd := cd) h3
  obtain ⟨f0, f1, f2⟩ := img_free h4
  exact ⟨c0, c1, c2, f0, f1, f2, cellAt_of (v := x) (by rw [cell_of_row W R _ _ _ _ h4]; rfl), cellAt_of (v := y) (by rw [cell_of_row W R _ _ _ _ h4]; rfl), cellAt_of (v := z) (by rw [cell_of_row W R _ _ _ _ h4]; rfl), h'⟩
theorem invC_drew (h : InvC w0 P R nm v cd W) : InvC w0 P R nm v cd W.drew := ⟨Below.drew h.1, h.2⟩
theorem invC_below (h : InvC w0 P R nm v cd W) (hb : Below W.heap.size W W') : InvC w0 P R nm v cd W' := by
  obtain ⟨h1, h2, h3, x, y, z, h4⟩ := h
  exact ⟨below_on h1 hb, h2, blk_below h3 hb, x, y, z, blk_below h4 hb⟩
theorem invC_set (h : InvC w0 P R nm v cd W) (i : Nat) (u : Value) : InvC w0 P R nm v cd (W.setCell ⟨R, i, none⟩ u) := by
  obtain ⟨h1, h2, h3, x, y, z, h4⟩ := h
  rw [setCell_eq_setRow W R i _ _ _ u h4]
  refine ⟨below_setRow h1 h2.2.1 _, h2, by rw [setRow_other _ _ _ _ h2.2.2]; exact h3, ?_⟩
  have h5 := setRow_heap _ _ _ (#[x, y, z].setIfInBounds i u) _ _ h4
  match i with
  | 0 => exact ⟨u, y, z, h5⟩
  | 1 => exact ⟨x, u, z, h5⟩
  | 2 => exact ⟨x, y, u, h5⟩
  | i + 3 => exact ⟨x, y, z, h5⟩
theorem invC_put (h : InvC w0 P R nm v cd W) (a b c : Value) : (((W.setCell ⟨R, 0, none⟩ a).setCell ⟨R, 1, none⟩ b).setCell ⟨R, 2, none⟩ c).heap[R]? = some (.cells #[a, b, c] 77) ∧ Below w0.heap.size w0 (((W.setCell ⟨R, 0, none⟩ a).setCell ⟨R, 1, none⟩ b).setCell ⟨R, 2, none⟩ c) := by
  obtain ⟨h1, h2, h3, x, y, z, h4⟩ := h
  rw [three_set h4]
  exact ⟨setRow_heap _ _ _ _ _ _ h4, below_setRow h1 h2.2.1 _⟩
end

set_option maxHeartbeats 4000000 in
theorem clones_any (nm cd : ByteArray) (v : Int) (w : World) (hn : nm.size ≤ 140737488351232) (hc : cd.size ≤ 140737488351232) :
    Calls Tryz.prog 57 #[.agg (imgC nm v cd)] w fun e w' => e = .returned (.agg (imgC nm v cd)) ∧ Below w.heap.size w w' := by
  have hI : InvC w w.heap.size (w.heap.size + 1) nm v cd ((w.alloc (.cells (imgC nm v cd) 77)).alloc (.cells (imgC { data := #[] } 0 { data := #[] }) 77)) :=
    ⟨below_on (below_new w _) (below_new _ _), ⟨Nat.le_refl _, by omega, by omega⟩, blk_keep (blk_new w _) _, _, _, _, blk_two w _ _⟩
  unfold imgC at hI ⊢
  obtain ⟨m0, m1, m2, f0, f1, f2, r0, r1, r2, _⟩ := invC_S hI
  go_enter Tryz.func57, Tryz.ntmps57
  go_wp2_with (fail)
  go_region_held3 (fun w' => w'.cell? ⟨w.heap.size, 0, none⟩ = some (.string nm) ∧ w'.cell? ⟨w.heap.size, 1, none⟩ = some (.int .i64 v) ∧ w'.cell? ⟨w.heap.size, 2, none⟩ = some (.string cd)
    ∧ w'.frozen? ⟨w.heap.size + 1, 0, none⟩ = false ∧ w'.frozen? ⟨w.heap.size + 1, 1, none⟩ = false ∧ w'.frozen? ⟨w.heap.size + 1, 2, none⟩ = false
    ∧ w'.cell? ⟨w.heap.size + 1, 0, none⟩ = some (cellAt w' (w.heap.size + 1) 0) ∧ w'.cell? ⟨w.heap.size + 1, 1, none⟩ = some (cellAt w' (w.heap.size + 1) 1) ∧ w'.cell? ⟨w.heap.size + 1, 2, none⟩ = some (cellAt w' (w.heap.size + 1) 2) ∧ InvC w w.heap.size (w.heap.size + 1) nm v cd w')
    (exact invC_S (by repeat (first | assumption | apply invC_drew | apply invC_set)))
    (first | (go_at_call 48; refine (clone_any _ _ ?_).mono ?_; omega; rintro e w5 ⟨rfl, hb5⟩; have hI5 : InvC w w.heap.size (w.heap.size + 1) nm v cd w5 := invC_below (by repeat (first | assumption | apply invC_drew | apply invC_set)) hb5; clear hb5; obtain ⟨m50, m51, m52, f50, f51, f52, r50, r51, r52, _⟩ := invC_S hI5))
  all_goals
    go_wp2
    refine bodyPost_ret (v := .agg #[.string nm, .int .i64 v, .string cd]) ?_ rfl ⟨rfl, ?_⟩
    · exact results_imgOne (p := 2) rfl _ _ (w.heap.size + 1) _ rfl (invC_put (by repeat (first | assumption | apply invC_drew | apply invC_set)) _ _ _).1 rfl
    · exact (invC_put (by repeat (first | assumption | apply invC_drew | apply invC_set)) _ _ _).2
end Go.Proofs.YtgnpffkfbacejaaGreatDoor.Image
namespace Go.Proofs.YtgnpffkfbacejaaGreatDoor.M

/-- A number to a power, modulo the group. -/
def pw (a n : Nat) : Nat := a ^ n % 1543
theorem pw_lt (a n : Nat) : pw a n < 1543 := Nat.mod_lt _ (by omega)
theorem pw_zero (a : Nat) : pw a 0 = 1 := by unfold pw; rw [Nat.pow_zero]
theorem pw_one {a : Nat} (h : a < 1543) : pw a 1 = a := by unfold pw; rw [Nat.pow_one, Nat.mod_eq_of_lt h]
theorem pw_add (a m n : Nat) : pw a (m + n) = pw a m * pw a n % 1543 := by unfold pw; rw [Nat.pow_add, Nat.mul_mod]
theorem pw_succ (a n : Nat) : pw a (n + 1) = pw a n * a % 1543 := by
  rw [pw_add]
  unfold pw
  rw [Nat.pow_one]
  simp [Nat.mul_mod]
theorem pw_mul (a m n : Nat) : pw a (m * n) = pw (pw a m) n := by
  unfold pw
  rw [Nat.pow_mul]
  exact Nat.pow_mod _ _ _
theorem pw_even (a n : Nat) : pw a (2 * n) = pw a n * pw a n % 1543 := by rw [show 2 * n = n + n by omega, pw_add]
theorem pw_half_even {a n : Nat} (h : n % 2 = 0) : pw a n = pw a (n / 2) * pw a (n / 2) % 1543 := by rw [← pw_even, show 2 * (n / 2) = n by omega]
theorem pw_half_odd {a n : Nat} (h : n % 2 = 1) : pw a n = (pw a (n / 2) * pw a (n / 2) % 1543) * a % 1543 := by
  rw [← pw_even, ← pw_succ, show 2 * (n / 2) + 1 = n by omega]
/-- 64 has the order 257. -/
theorem pw_order : pw 64 257 = 1 := by decide +kernel
theorem pw_mod (n : Nat) : pw 64 (n % 257) = pw 64 n := by
  have h : pw 64 n = pw 64 (257 * (n / 257)) * pw 64 (n % 257) % 1543 := by rw [← pw_add, Nat.div_add_mod]
  have h1 : ∀ k, pw 1 k = 1 := fun k => by unfold pw; rw [Nat.one_pow]
  rw [h, pw_mul, pw_order, h1, Nat.one_mul, Nat.mod_eq_of_lt (pw_lt _ _)]
/-- The powers of 64, as far as they are unlike. -/
def pws : List Nat := (List.range 257).map (pw 64)
theorem pws_nodup : pws.Nodup := by
  have h : decide pws.Nodup = true := by decide +kernel
  exact of_decide_eq_true h
theorem pw_inj {i j : Nat} (hi : i < 257) (hj : j < 257) (h : pw 64 i = pw 64 j) : i = j := by
  have li : i < pws.length := by simp [pws]; exact hi
  have lj : j < pws.length := by simp [pws]; exact hj
  have e : pws[i] = pws[j] := by simpa [pws] using h
  exact (List.getElem_inj pws_nodup).1 e
theorem pw_iff {i j : Nat} (hi : i < 257) (hj : j < 257) : pw 64 i = pw 64 j ↔ i = j := ⟨pw_inj hi hj, fun e => by rw [e]⟩
theorem pw_pos_fin : ∀ k : Fin 257, 1 ≤ pw 64 k.val := by decide +kernel
theorem pw_pos (n : Nat) : 1 ≤ pw 64 n := by
  rw [← pw_mod]
  exact pw_pos_fin ⟨n % 257, Nat.mod_lt _ (by omega)⟩
theorem pw_ne_one {x : Nat} (h1 : 1 ≤ x) (h2 : x ≤ 256) : pw 64 x ≠ 1 := by
  intro e
  have := pw_inj (i := x) (j := 0) (by omega) (by omega) (by rw [e, pw_zero])
  omega
/-- A seal is right by its key: Schnorr. -/
theorem seal_right (k c x : Nat) : pw 64 ((k + c * x) % 257) = pw 64 k * pw (pw 64 x) c % 1543 := by
  rw [pw_mod, pw_add, Nat.mul_comm c x, pw_mul]
/-- With another answer it is not. -/
theorem seal_other {k c x other : Nat} (h : other < 257) : pw 64 other = pw 64 k * pw (pw 64 x) c % 1543 ↔ other = (k + c * x) % 257 := by
  rw [← seal_right]
  exact pw_iff h (Nat.mod_lt _ (by omega))
/-- Two seals by one number: what the challenges are apart, times the secret, is what the answers are apart. -/
theorem seal_two (k a b x : Nat) : ((((a : Int) - b + 257) * x - ((((k + a * x) % 257 : Nat) : Int) - (((k + b * x) % 257 : Nat) : Int) + 257))) % 257 = 0 := by
  have e : ((a : Int) - b + 257) * x = (a * x : Nat) - (b * x : Nat) + 257 * x := by
    rw [Int.add_mul, Int.sub_mul]
    simp [Int.natCast_mul]
  rw [e]
  generalize a * x = p
  generalize b * x = q
  omega
theorem seal_two_tmod (k a b x : Nat) : Int.tmod (((a : Int) - b + 257) * x - ((((k + a * x) % 257 : Nat) : Int) - (((k + b * x) % 257 : Nat) : Int) + 257)) 257 = 0 :=
  Int.tmod_eq_zero_of_dvd (Int.dvd_of_emod_eq_zero (seal_two k a b x))
end Go.Proofs.YtgnpffkfbacejaaGreatDoor.M
namespace Go.Proofs.YtgnpffkfbacejaaGreatDoor.M

/-- Is it a secret? Is it of the group? May it be an answer? -/
def secB (x : Int) : Bool := decide (1 ≤ x ∧ x < 257)
def inB (n : Int) : Bool := decide (1 ≤ n ∧ n < 1543)
def ansB (n : Int) : Bool := decide (0 ≤ n ∧ n < 257)
theorem secB_iff {x : Int} : secB x = true ↔ 1 ≤ x ∧ x < 257 := by unfold secB; simp
theorem secB_not {x : Int} : secB x = false ↔ ¬ (1 ≤ x ∧ x < 257) := by unfold secB; simp
theorem inB_iff {x : Int} : inB x = true ↔ 1 ≤ x ∧ x < 1543 := by unfold inB; simp
theorem inB_not {x : Int} : inB x = false ↔ ¬ (1 ≤ x ∧ x < 1543) := by unfold inB; simp
theorem ansB_iff {x : Int} : ansB x = true ↔ 0 ≤ x ∧ x < 257 := by unfold ansB; simp
theorem ansB_not {x : Int} : ansB x = false ↔ ¬ (0 ≤ x ∧ x < 257) := by unfold ansB; simp
theorem inB_isM {x : Int} (h : inB x = true) : isM x = true := isM_iff.2 (by have := inB_iff.1 h; omega)

/-- A power, of whole numbers. -/
def pwZ (a n : Int) : Int := ((pw a.toNat n.toNat : Nat) : Int)
theorem pwZ_nat (a n : Nat) : pwZ a n = (pw a n : Nat) := rfl
theorem pwZ_lo (a n : Int) : 0 ≤ pwZ a n := Int.natCast_nonneg _
theorem pwZ_hi (a n : Int) : pwZ a n < 1543 := by
  have := pw_lt a.toNat n.toNat
  unfold pwZ
  omega
theorem pwZ_in (n : Int) : inB (pwZ 64 n) = true := by
  rw [inB_iff]
  have h1 := pw_pos n.toNat
  have h2 := pw_lt 64 n.toNat
  unfold pwZ
  have e : (64 : Int).toNat = 64 := rfl
  rw [e]
  omega

/-- The challenge of a point, a key and a measure; what is wrong with it. -/
def chV (p q m : Int) : Int := allV [p, q, m] % 257
theorem chV_lo (p q m : Int) : 0 ≤ chV p q m := by unfold chV; omega
theorem chV_hi (p q m : Int) : chV p q m < 257 := by unfold chV; omega
theorem ok_three {p q m : Int} (hp : isM p = true) (hq : isM q = true) : okAll [p, q, m] = isM m := by simp [okAll, hp, hq]
theorem allC_three {p q m : Int} (hp : isM p = true) (hq : isM q = true) : allC [p, q, m] = if isM m = true then 0 else 1 := by
  unfold allC
  rw [if_neg (by simp), ok_three hp hq]
theorem allV_three {p q m : Int} (hp : isM p = true) (hq : isM q = true) (hm : isM m = true) : allV [p, q, m] = allFrom 0 [p, q, m] := by
  unfold allV
  rw [if_neg (by simp), ok_three hp hq, if_pos hm]
theorem chV_ok {p q m : Int} (hp : isM p = true) (hq : isM q = true) (hm : isM m = true) : chV p q m = allFrom 0 [p, q, m] % 257 := by
  unfold chV
  rw [allV_three hp hq hm]

/-- A public key; what is wrong. -/
def pubC (x : Int) : Int := if secB x = true then 0 else 1
def pubV (x : Int) : Int := if secB x = true then pwZ 64 x else 0
theorem pubC_ok {x : Int} (h : secB x = true) : pubC x = 0 := if_pos h
theorem pubV_ok {x : Int} (h : secB x = true) : pubV x = pwZ 64 x := if_pos h
theorem pubC_no {x : Int} (h : secB x = false) : pubC x = 1 := by unfold pubC; rw [h]; rfl
theorem pubV_no {x : Int} (h : secB x = false) : pubV x = 0 := by unfold pubV; rw [h]; rfl

/-- A seal: its challenge, what is wrong, its point, its answer. -/
def sigH (x k m : Int) : Int := chV (pwZ 64 k) (pwZ 64 x) m
def sigC (x k m : Int) : Int := if secB x = true ∧ secB k = true ∧ isM m = true then 0 else 1
def sigP (x k m : Int) : Int := if secB x = true ∧ secB k = true ∧ isM m = true then pwZ 64 k else 0
def sigA (x k m : Int) : Int := if secB x = true ∧ secB k = true ∧ isM m = true then (k + sigH x k m * x) % 257 else 0
theorem sigC_ok {x k m : Int} (hx : secB x = true) (hk : secB k = true) (hm : isM m = true) : sigC x k m = 0 := if_pos ⟨hx, hk, hm⟩
theorem sigP_ok {x k m : Int} (hx : secB x = true) (hk : secB k = true) (hm : isM m = true) : sigP x k m = pwZ 64 k := if_pos ⟨hx, hk, hm⟩
theorem sigA_ok {x k m : Int} (hx : secB x = true) (hk : secB k = true) (hm : isM m = true) : sigA x k m = (k + sigH x k m * x) % 257 := if_pos ⟨hx, hk, hm⟩
theorem sig_no {x k m : Int} (h : secB x = false ∨ secB k = false ∨ isM m = false) : sigC x k m = 1 ∧ sigP x k m = 0 ∧ sigA x k m = 0 := by
  have hn : ¬ (secB x = true ∧ secB k = true ∧ isM m = true) := by
    rintro ⟨a, b, c⟩
    rw [a, b, c] at h
    simp at h
  unfold sigC sigP sigA
  rw [if_neg hn, if_neg hn, if_neg hn]
  exact ⟨rfl, rfl, rfl⟩
theorem sigC_zero {x k m : Int} (h : sigC x k m = 0) : secB x = true ∧ secB k = true ∧ isM m = true := by
  unfold sigC at h
  split at h
  · assumption
  · cases h

/-- Is a seal right: its form, and what it says. -/
def formB (q m p a : Int) : Bool := inB q && inB p && isM m && ansB a
def saysB (q m p a : Int) : Bool := decide (pwZ 64 a = p * pwZ q (chV p q m) % 1543)
def rigC (q m p a : Int) : Int := if formB q m p a = true then (if saysB q m p a = true then 0 else 8) else 1
def chkC (q m p a : Int) : Int := if formB q m p a = true then 0 else 1
def chkB (q m p a : Int) : Bool := formB q m p a && saysB q m p a
theorem formB_iff {q m p a : Int} : formB q m p a = true ↔ inB q = true ∧ inB p = true ∧ isM m = true ∧ ansB a = true := by
  unfold formB
  simp [Bool.and_eq_true, and_assoc]
theorem form_no {q m p a : Int} (h : inB q = false ∨ inB p = false ∨ isM m = false ∨ ansB a = false) : formB q m p a = false := by
  unfold formB
  rcases h with h | h | h | h <;> rw [h] <;> simp
theorem rigC_no {q m p a : Int} (h : formB q m p a = false) : rigC q m p a = 1 := by unfold rigC; rw [h]; rfl
theorem chkC_no {q m p a : Int} (h : formB q m p a = false) : chkC q m p a = 1 := by unfold chkC; rw [h]; rfl
theorem chkB_no {q m p a : Int} (h : formB q m p a = false) : chkB q m p a = false := by unfold chkB; rw [h]; rfl
theorem chkC_ok {q m p a : Int} (h : formB q m p a = true) : chkC q m p a = 0 := by unfold chkC; rw [h]; rfl
theorem chkB_ok {q m p a : Int} (h : formB q m p a = true) : chkB q m p a = saysB q m p a := by unfold chkB; rw [h]; rfl
theorem rigC_yes {q m p a : Int} (h : formB q m p a = true) (hs : saysB q m p a = true) : rigC q m p a = 0 := by unfold rigC; rw [h, hs]; rfl
theorem rigC_else {q m p a : Int} (h : formB q m p a = true) (hs : saysB q m p a = false) : rigC q m p a = 8 := by unfold rigC; rw [h, hs]; rfl
theorem rig_chk (q m p a : Int) : (rigC q m p a = 0 ∧ chkC q m p a = 0 ∧ chkB q m p a = true) ∨ (rigC q m p a = 8 ∧ chkC q m p a = 0 ∧ chkB q m p a = false) ∨ (rigC q m p a = 1 ∧ chkC q m p a = 1 ∧ chkB q m p a = false) := by
  cases h : formB q m p a with
  | false => exact Or.inr (Or.inr ⟨rigC_no h, chkC_no h, chkB_no h⟩)
  | true =>
    cases hs : saysB q m p a with
    | true => exact Or.inl ⟨rigC_yes h hs, chkC_ok h, by rw [chkB_ok h, hs]⟩
    | false => exact Or.inr (Or.inl ⟨rigC_else h hs, chkC_ok h, by rw [chkB_ok h, hs]⟩)

/-- A seal is right by its key, and with no other answer. -/
theorem says_own {x k m other : Int} (hx : secB x = true) (hk : secB k = true) (hm : isM m = true) (ho : ansB other = true) : saysB (pwZ 64 x) m (pwZ 64 k) other = decide (other = sigA x k m) := by
  have x1 := secB_iff.1 hx
  have k1 := secB_iff.1 hk
  have o1 := ansB_iff.1 ho
  have c0 := chV_lo (pwZ 64 k) (pwZ 64 x) m
  unfold saysB
  rw [sigA_ok hx hk hm]
  unfold sigH
  generalize chV (pwZ 64 k) (pwZ 64 x) m = c at *
  obtain ⟨x, rfl⟩ : ∃ n : Nat, x = n := ⟨x.toNat, by omega⟩
  obtain ⟨k, rfl⟩ : ∃ n : Nat, k = n := ⟨k.toNat, by omega⟩
  obtain ⟨o, rfl⟩ : ∃ n : Nat, other = n := ⟨other.toNat, by omega⟩
  obtain ⟨c, rfl⟩ : ∃ n : Nat, c = n := ⟨c.toNat, by omega⟩
  have h := @seal_other k c x o (by omega)
  have e1 : pwZ 64 (o : Int) = (pw 64 o : Nat) := rfl
  have e2 : pwZ 64 (k : Int) = (pw 64 k : Nat) := rfl
  have e3 : pwZ (pwZ 64 (x : Int)) (c : Int) = (pw (pw 64 x) c : Nat) := rfl
  rw [e1, e2, e3]
  apply decide_eq_decide.2
  generalize pw 64 o = A at h ⊢
  generalize pw 64 k = B at h ⊢
  generalize pw (pw 64 x) c = C at h ⊢
  rw [← Int.natCast_mul, ← Int.natCast_mul]
  generalize B * C = D at h ⊢
  generalize c * x = E at h ⊢
  constructor
  · intro e
    have := h.1 (by omega)
    omega
  · intro e
    have := h.2 (by omega)
    omega
theorem sigA_ans {x k m : Int} : ansB (sigA x k m) = true := by
  rw [ansB_iff]
  unfold sigA
  split <;> omega
/-- Two seals by one number tell the secret. -/
theorem two_tell {x k m n : Int} (hx : secB x = true) (hk : secB k = true) (hm : isM m = true) (hn : isM n = true) :
    Int.tmod ((sigH x k m - sigH x k n + 257) * x - (sigA x k m - sigA x k n + 257)) 257 = 0 := by
  have x1 := secB_iff.1 hx
  have k1 := secB_iff.1 hk
  have c0 := chV_lo (pwZ 64 k) (pwZ 64 x) m
  have d0 := chV_lo (pwZ 64 k) (pwZ 64 x) n
  rw [sigA_ok hx hk hm, sigA_ok hx hk hn]
  unfold sigH
  generalize chV (pwZ 64 k) (pwZ 64 x) m = c at *
  generalize chV (pwZ 64 k) (pwZ 64 x) n = d at *
  obtain ⟨x, rfl⟩ : ∃ n : Nat, x = n := ⟨x.toNat, by omega⟩
  obtain ⟨k, rfl⟩ : ∃ n : Nat, k = n := ⟨k.toNat, by omega⟩
  obtain ⟨c, rfl⟩ : ∃ n : Nat, c = n := ⟨c.toNat, by omega⟩
  obtain ⟨d, rfl⟩ : ∃ n : Nat, d = n := ⟨d.toNat, by omega⟩
  exact seal_two_tmod k c d x
/-- All secrets are unlike, and so are their keys. -/
theorem keys_unlike {x y : Int} (hx : secB x = true) (hy : secB y = true) : (pwZ 64 x == pwZ 64 y) = (x == y) ∧ pwZ 64 x ≠ 1 := by
  have x1 := secB_iff.1 hx
  have y1 := secB_iff.1 hy
  obtain ⟨x, rfl⟩ : ∃ n : Nat, x = n := ⟨x.toNat, by omega⟩
  obtain ⟨y, rfl⟩ : ∃ n : Nat, y = n := ⟨y.toNat, by omega⟩
  have h := @pw_iff x y (by omega) (by omega)
  have g := @pw_ne_one x (by omega) (by omega)
  have e1 : pwZ 64 (x : Int) = (pw 64 x : Nat) := rfl
  have e2 : pwZ 64 (y : Int) = (pw 64 y : Nat) := rfl
  rw [e1, e2]
  generalize pw 64 x = A at h g ⊢
  generalize pw 64 y = B at h ⊢
  constructor
  · rw [Bool.eq_iff_iff, beq_iff_eq, beq_iff_eq]
    constructor
    · intro e
      have := h.1 (by omega)
      omega
    · intro e
      have := h.2 (by omega)
      omega
  · intro e
    exact g (by omega)
end Go.Proofs.YtgnpffkfbacejaaGreatDoor.M
namespace Go.Proofs.YtgnpffkfbacejaaGreatDoor.Key
open Go.ChangeShapes Go.WideShapes Go.ChangeAt Go.RowKit
open Go.Proofs.YtgnpffkfbacejaaGreatDoor.M
set_option linter.unusedVariables false

theorem ret_one {k : IntKind} {a b : Int} (h : a = b) : Ending.returned (.int k a) = .returned (.int k b) := by rw [h]

theorem ret_true {b : Bool} (h : b = true) : Ending.returned (.bool b) = .returned (.bool true) := by rw [h]

theorem secret_any (n : Int) (w : World) :
    Calls Tryz.prog 39 #[.int .i64 n] w fun e w' => e = .returned (.bool (secB n)) ∧ w' = w := by
  by_cases h0 : 1 ≤ n
  · by_cases h1 : n < 257
    · rw [secB_iff.2 ⟨h0, h1⟩]
      go_enter Tryz.func39, Tryz.ntmps39
      go_wp2
      go_ret
      exact ⟨rfl, rfl⟩
    · rw [secB_not.2 (by omega)]
      go_enter Tryz.func39, Tryz.ntmps39
      go_wp2
      go_ret
      exact ⟨rfl, rfl⟩
  · rw [secB_not.2 (by omega)]
    go_enter Tryz.func39, Tryz.ntmps39
    go_wp2
    go_ret
    exact ⟨rfl, rfl⟩

theorem public_is (n : Int) (w : World) :
    Calls Tryz.prog 109 #[.int .i64 n] w fun e w' => e = .returned (.bool (inB n)) ∧ w' = w := by
  by_cases h0 : 1 ≤ n
  · by_cases h1 : n < 1543
    · rw [inB_iff.2 ⟨h0, h1⟩]
      go_enter Tryz.func109, Tryz.ntmps109
      go_wp2
      go_ret
      exact ⟨rfl, rfl⟩
    · rw [inB_not.2 (by omega)]
      go_enter Tryz.func109, Tryz.ntmps109
      go_wp2
      go_ret
      exact ⟨rfl, rfl⟩
  · rw [inB_not.2 (by omega)]
    go_enter Tryz.func109, Tryz.ntmps109
    go_wp2
    go_ret
    exact ⟨rfl, rfl⟩

set_option maxHeartbeats 400000 in
theorem power_nat (a n : Nat) (w : World) (ha : a < 1543) (hn : n < 1000) :
    Calls Tryz.prog 40 #[.int .i64 a, .int .i64 n] w fun e w' => e = .returned (.int .i64 (pw a n : Nat)) ∧ w' = w := by
  go_enter Tryz.func40, Tryz.ntmps40
  go_wp2
  go_loop [5, 7] (fun p i => ∃ k : Nat, k ≤ n ∧ i = .int .i64 k ∧ p = .int .i64 (pw a k : Nat)) (fun _ i => n - (intOf i).toNat)
  case atStart => exact ⟨0, by omega, rfl, by rw [pw_zero]; rfl⟩
  case round =>
    obtain ⟨k, hk, rfl, rfl⟩ := hrel
    by_cases hlt : k < n
    · have hlz : (k : Int) < n := by omega
      have E := hide (pw_succ a k)
      have hq := pw_lt a k
      generalize hqe : pw a k = q at *
      have hm0 : 0 ≤ (q : Int) * a := Int.mul_nonneg (by omega) (by omega)
      have hm1 : (q : Int) * a ≤ 1543 * 1543 := Int.mul_le_mul (by omega) (by omega) (by omega) (by omega)
      go_wp2
      go_round
      case rel => exact ⟨k + 1, by omega, by go_num, by rw [E.out]; simp [Int.natCast_mul]⟩
      case measure => simp [intOf]; omega
    · have hkn : k = n := by omega
      have hlz : ¬ (k : Int) < n := by omega
      go_wp2
      go_ret
      exact ⟨rfl, rfl⟩
theorem power_any (a n : Int) (w : World) (ha0 : 0 ≤ a) (ha : a < 1543) (hn0 : 0 ≤ n) (hn : n < 1000) :
    Calls Tryz.prog 40 #[.int .i64 a, .int .i64 n] w fun e w' => e = .returned (.int .i64 (pwZ a n)) ∧ w' = w := by
  obtain ⟨a, rfl⟩ : ∃ k : Nat, a = k := ⟨a.toNat, by omega⟩
  obtain ⟨n, rfl⟩ : ∃ k : Nat, n = k := ⟨n.toNat, by omega⟩
  exact power_nat a n w (by omega) (by omega)

theorem public_ok (x : Int) (w : World) (h : secB x = true) :
    Calls Tryz.prog 19 #[.int .i64 x] w fun e w' => e = .returned (.tuple #[.int .i64 (pwZ 64 x), .nilIface]) ∧ w' = w := by
  have hr := secB_iff.1 h
  obtain ⟨h0, h1⟩ := hr
  go_enter Tryz.func19, Tryz.ntmps19
  go_wp2_with (first | (go_at_call 39; refine (secret_any _ _).mono ?_; rintro e w' ⟨rfl, rfl⟩) | (go_at_call 40; refine (power_any _ _ _ (by omega) (by omega) (by omega) (by omega)).mono ?_; rintro e w' ⟨rfl, rfl⟩))
  go_ret2
  exact ⟨rfl, rfl⟩
theorem public_no (x : Int) (w : World) (h : secB x = false) :
    Calls Tryz.prog 19 #[.int .i64 x] w fun e w' => e = .returned (.tuple #[.int .i64 0, .iface 63 (.int .i64 1)]) ∧ w' = w := by
  go_enter Tryz.func19, Tryz.ntmps19
  go_wp2_with (go_at_call 39; refine (secret_any _ _).mono ?_; rintro e w' ⟨rfl, rfl⟩)
  go_ret2
  exact ⟨rfl, rfl⟩
theorem public_any (x : Int) (w : World) :
    Calls Tryz.prog 19 #[.int .i64 x] w fun e w' => e = .returned (.tuple #[.int .i64 (pubV x), errV 63 (pubC x)]) ∧ w' = w := by
  cases h : secB x with
  | true => rw [pubV_ok h, pubC_ok h]; exact public_ok x w h
  | false => rw [pubV_no h, pubC_no h]; exact public_no x w h
end Go.Proofs.YtgnpffkfbacejaaGreatDoor.Key
namespace Go.Proofs.YtgnpffkfbacejaaGreatDoor.Key
open Go.ChangeShapes Go.WideShapes Go.ChangeAt Go.RowKit
open Go.Proofs.YtgnpffkfbacejaaGreatDoor.M Go.Proofs.YtgnpffkfbacejaaGreatDoor.Measure
set_option linter.unusedVariables false

set_option maxHeartbeats 1000000 in
theorem challenge_ok (p q m : Int) (w : World) (hp : isM p = true) (hq : isM q = true) (hm : isM m = true) :
    Calls Tryz.prog 63 #[.int .i64 p, .int .i64 q, .int .i64 m] w fun e w' => e = .returned (.tuple #[.int .i64 (chV p q m), .nilIface]) ∧ Below w.heap.size w w' := by
  have HO := hide (show okAll [p, q, m] = true by rw [ok_three hp hq, hm])
  have HC := hide (chV_ok hp hq hm)
  have hr := allFrom_range 0 [p, q, m] (by omega) (by omega)
  clear hp hq hm
  obtain ⟨r0, r1⟩ := hr
  go_enter Tryz.func63, Tryz.ntmps63
  go_wp2_with (fail)
  refine (all_ok _ [p, q, m] 3 _ _ rfl (by omega) (Row.three (blk_new _ _)) HO.out).mono ?_
  rintro e w1 ⟨rfl, rfl⟩
  generalize allFrom 0 [p, q, m] = r at *
  go_wp2
  go_ret2
  exact ⟨by rw [HC.out]; rfl, below_new _ _⟩

set_option maxHeartbeats 1000000 in
theorem challenge_no (p q m : Int) (w : World) (hp : isM p = true) (hq : isM q = true) (hm : isM m = false) :
    Calls Tryz.prog 63 #[.int .i64 p, .int .i64 q, .int .i64 m] w fun e w' => e = .returned (.tuple #[.int .i64 0, .iface 63 (.int .i64 1)]) ∧ Below w.heap.size w w' := by
  have HO := hide (show okAll [p, q, m] = false by rw [ok_three hp hq, hm])
  clear hp hq hm
  go_enter Tryz.func63, Tryz.ntmps63
  go_wp2_with (fail)
  refine (all_bad _ [p, q, m] 3 _ _ rfl (by omega) (Row.three (blk_new _ _)) HO.out).mono ?_
  rintro e w1 ⟨rfl, rfl⟩
  go_wp2
  go_ret2
  exact ⟨rfl, below_new _ _⟩

theorem info_seal : (Tryz.prog.info? 48).map (·.size) = some 2 := by kernel_rfl
/-- A seal out of its block. -/
theorem load_seal {w : World} {b : Nat} {c : Array Value} {fr : Nat × Nat} (h : w.heap[b]? = some (.cells c 48 fr)) (hs : c.size = 2) : (loadVar 48 ⟨b, 0, none⟩).run Tryz.prog w = .ok (.agg c) w :=
  run_loadVar_row w b _ _ c fr _ h Tryz.underlying48 rfl (by rw [info_seal, hs])
theorem results_seal {fn : Func} {p u : Tmp} (h : fn.results = #[.cell p 48, .tmp u]) (tmps : Array Value) (w : World) (b : Nat) (c : Array Value) (v : Value) (hp : tmps.getD p undef = .pointer (some ⟨b, 0, none⟩)) (hu : tmps.getD u undef = v)
    (hg : w.heap[b]? = some (.cells c 48)) (hs : c.size = 2) : (results fn tmps).run Tryz.prog w = .ok (.tuple #[.agg c, v]) w := by
  rw [results_cell_tmp h, hp, hu]
  simp [asAddr, load_seal hg hs, Result.andThen]

set_option maxHeartbeats 2000000 in
theorem sign_any (x k m : Int) (w : World) :
    Calls Tryz.prog 38 #[.int .i64 x, .int .i64 k, .int .i64 m] w fun e w' => e = .returned (.tuple #[.agg (sealC (sigP x k m) (sigA x k m)), errV 63 (sigC x k m)]) ∧ Below w.heap.size w w' := by
  have HB0 := hide (below_new w (.cells #[.int .i64 0, .int .i64 0] 48))
  have HG0 := hide (blk_new w (.cells #[.int .i64 0, .int .i64 0] 48))
  obtain ⟨r0, r1⟩ := seal_cells HG0.out
  obtain ⟨g0, g1⟩ := seal_free HG0.out
  cases hx : secB x with
  | false =>
    obtain ⟨e1, e2, e3⟩ := sig_no (k := k) (m := m) (Or.inl hx)
    rw [e1, e2, e3]
    clear e1 e2 e3
    go_enter Tryz.func38, Tryz.ntmps38
    go_wp2_with (go_at_call 19; refine (public_no _ _ (by assumption)).mono ?_; rintro e w' ⟨rfl, rfl⟩)
    refine bodyPost_ret (v := .tuple #[.agg (sealC 0 0), .iface 63 (.int .i64 1)]) ?_ rfl ⟨?_, ?_⟩
    · exact results_seal (p := 6) (u := 7) rfl _ _ w.heap.size _ _ rfl rfl HG0.out rfl
    · rfl
    · exact HB0.out
  | true =>
    cases hk : secB k with
    | false =>
      obtain ⟨e1, e2, e3⟩ := sig_no (x := x) (m := m) (Or.inr (Or.inl hk))
      rw [e1, e2, e3]
      clear e1 e2 e3
      go_enter Tryz.func38, Tryz.ntmps38
      go_wp2_with (go_at_call 19; (first | refine (public_no _ _ (by assumption)).mono ?_ | refine (public_ok _ _ (by assumption)).mono ?_); rintro e w' ⟨rfl, rfl⟩)
      refine bodyPost_ret (v := .tuple #[.agg (sealC 0 0), .iface 63 (.int .i64 1)]) ?_ rfl ⟨?_, ?_⟩
      · exact results_seal (p := 6) (u := 7) rfl _ _ w.heap.size _ _ rfl rfl HG0.out rfl
      · rfl
      · exact HB0.out
    | true =>
      have PX := hide (fun W => public_ok x W hx)
      have PK := hide (fun W => public_ok k W hk)
      have MX := hide (inB_isM (pwZ_in x))
      have MK := hide (inB_isM (pwZ_in k))
      cases hm : isM m with
      | false =>
        obtain ⟨e1, e2, e3⟩ := sig_no (x := x) (k := k) (Or.inr (Or.inr hm))
        rw [e1, e2, e3]
        have HM := hide hm
        clear e1 e2 e3 hx hk hm
        generalize pwZ 64 x = q at *
        generalize pwZ 64 k = p at *
        go_enter Tryz.func38, Tryz.ntmps38
        go_wp2_with (fail)
        refine (PX.out _).mono ?_
        rintro e w1 ⟨rfl, rfl⟩
        go_wp2_with (fail)
        refine (PK.out _).mono ?_
        rintro e w1 ⟨rfl, rfl⟩
        go_wp2_with (fail)
        refine (challenge_no p q m _ MK.out MX.out HM.out).mono ?_
        rintro e w1 ⟨rfl, hb1⟩
        have HB1 := hide (below_on HB0.out hb1)
        have HG1 := hide (blk_below HG0.out hb1)
        clear hb1 HB0 HG0 r0 r1 g0 g1
        obtain ⟨r0, r1⟩ := seal_cells HG1.out
        obtain ⟨g0, g1⟩ := seal_free HG1.out
        go_wp2
        rw [two_set HG1.out]
        refine bodyPost_ret (v := .tuple #[.agg (sealC 0 0), .iface 63 (.int .i64 1)]) ?_ rfl ⟨?_, ?_⟩
        · exact results_seal (p := 6) (u := 7) rfl _ _ w.heap.size _ _ rfl rfl (setRow_heap _ _ _ _ _ _ HG1.out) rfl
        · rfl
        · exact below_setRow HB1.out (by omega) _
      | true =>
        rw [sigC_ok hx hk hm, sigP_ok hx hk hm, sigA_ok hx hk hm]
        unfold sigH
        have HM := hide hm
        have xr := secB_iff.1 hx
        have kr := secB_iff.1 hk
        obtain ⟨x0, x1⟩ := xr
        obtain ⟨k0, k1⟩ := kr
        clear hx hk hm
        generalize pwZ 64 x = q at *
        generalize pwZ 64 k = p at *
        have CH := hide (fun W => challenge_ok p q m W MK.out MX.out HM.out)
        have c0 := chV_lo p q m
        have c1 := chV_hi p q m
        generalize chV p q m = c at *
        have hm0 : 0 ≤ c * x := Int.mul_nonneg c0 (by omega)
        have hm1 : c * x ≤ 257 * 257 := Int.mul_le_mul (by omega) (by omega) (by omega) (by omega)
        go_enter Tryz.func38, Tryz.ntmps38
        go_wp2_with (fail)
        refine (PX.out _).mono ?_
        rintro e w1 ⟨rfl, rfl⟩
        go_wp2_with (fail)
        refine (PK.out _).mono ?_
        rintro e w1 ⟨rfl, rfl⟩
        go_wp2_with (fail)
        refine (CH.out _).mono ?_
        rintro e w1 ⟨rfl, hb1⟩
        have HB1 := hide (below_on HB0.out hb1)
        have HG1 := hide (blk_below HG0.out hb1)
        clear hb1 HB0 HG0 r0 r1 g0 g1
        obtain ⟨r0, r1⟩ := seal_cells HG1.out
        obtain ⟨g0, g1⟩ := seal_free HG1.out
        go_wp2
        rw [two_set HG1.out]
        refine bodyPost_ret (v := .tuple #[.agg (sealC p ((k + c * x) % 257)), .nilIface]) ?_ rfl ⟨?_, ?_⟩
        · exact results_seal (p := 6) (u := 7) rfl _ _ w.heap.size _ _ rfl rfl (setRow_heap _ _ _ _ _ _ HG1.out) rfl
        · rfl
        · exact below_setRow HB1.out (by omega) _
end Go.Proofs.YtgnpffkfbacejaaGreatDoor.Key
namespace Go.Proofs.YtgnpffkfbacejaaGreatDoor.Key
open Go.ChangeShapes Go.WideShapes Go.ChangeAt Go.RowKit
open Go.Proofs.YtgnpffkfbacejaaGreatDoor.M Go.Proofs.YtgnpffkfbacejaaGreatDoor.Measure
set_option linter.unusedVariables false

theorem below_quiet {B : Nat} {a w : World} (h : Below B a w) : ∀ n, Below B a (w.drewN n)
  | 0 => h
  | n + 1 => Below.drew (below_quiet h n)

set_option maxHeartbeats 2000000 in
theorem check_form (q m p a : Int) (w : World) (h : inB q = false ∨ inB p = false ∨ ansB a = false) :
    Calls Tryz.prog 83 #[.int .i64 q, .int .i64 m, .agg (sealC p a)] w fun e w' => e = .returned (.tuple #[.bool false, .iface 63 (.int .i64 1)]) ∧ Below w.heap.size w w' := by
  have HB := hide (below_new w (.cells (sealC p a) 48))
  unfold sealC at HB ⊢
  have HF := hide h
  clear h
  cases hq : inB q with
  | false =>
    go_enter Tryz.func83, Tryz.ntmps83
    go_wp2_with (go_at_call 109; refine (public_is _ _).mono ?_; rintro e w' ⟨rfl, rfl⟩)
    go_ret2
    exact ⟨rfl, HB.out⟩
  | true =>
    cases hp : inB p with
    | false =>
      go_enter Tryz.func83, Tryz.ntmps83
      go_wp2_with (go_at_call 109; refine (public_is _ _).mono ?_; rintro e w' ⟨rfl, rfl⟩)
      go_ret2
      exact ⟨rfl, HB.out⟩
    | true =>
      by_cases h0 : a < 0
      · go_enter Tryz.func83, Tryz.ntmps83
        go_wp2_with (go_at_call 109; refine (public_is _ _).mono ?_; rintro e w' ⟨rfl, rfl⟩)
        go_ret2
        exact ⟨rfl, HB.out⟩
      · have h1 : 257 ≤ a := by
          have := HF.out
          rw [hq, hp, ansB_not] at this
          simp at this
          omega
        go_enter Tryz.func83, Tryz.ntmps83
        go_wp2_with (go_at_call 109; refine (public_is _ _).mono ?_; rintro e w' ⟨rfl, rfl⟩)
        go_ret2
        exact ⟨rfl, HB.out⟩

set_option maxHeartbeats 2000000 in
theorem check_meas (q m p a : Int) (w : World) (hq : inB q = true) (hp : inB p = true) (ha : ansB a = true) (hm : isM m = false) :
    Calls Tryz.prog 83 #[.int .i64 q, .int .i64 m, .agg (sealC p a)] w fun e w' => e = .returned (.tuple #[.bool false, .iface 63 (.int .i64 1)]) ∧ Below w.heap.size w w' := by
  have HB := hide (below_new w (.cells (sealC p a) 48))
  unfold sealC at HB ⊢
  have ar := ansB_iff.1 ha
  obtain ⟨a0, a1⟩ := ar
  have CH := hide (fun W => challenge_no p q m W (inB_isM hp) (inB_isM hq) hm)
  clear ha hm
  go_enter Tryz.func83, Tryz.ntmps83
  go_wp2_with (go_at_call 109; refine (public_is _ _).mono ?_; rintro e w' ⟨rfl, rfl⟩)
  refine (CH.out _).mono ?_
  rintro e w1 ⟨rfl, hb1⟩
  have HB1 := hide (below_on HB.out hb1)
  clear hb1 HB
  go_wp2
  go_ret2
  exact ⟨rfl, HB1.out⟩

set_option maxHeartbeats 400000 in
theorem check_ok (q m p a : Int) (w : World) (hq : inB q = true) (hp : inB p = true) (ha : ansB a = true) (hm : isM m = true) :
    Calls Tryz.prog 83 #[.int .i64 q, .int .i64 m, .agg (sealC p a)] w fun e w' => e = .returned (.tuple #[.bool (saysB q m p a), .nilIface]) ∧ Below w.heap.size w w' := by
  have HB := hide (below_new w (.cells (sealC p a) 48))
  have HG := hide (blk_new w (.cells (sealC p a) 48))
  unfold sealC at HB HG ⊢
  have ar := ansB_iff.1 ha
  obtain ⟨a0, a1⟩ := ar
  have qr := inB_iff.1 hq
  obtain ⟨q0, q1⟩ := qr
  have pr := inB_iff.1 hp
  obtain ⟨p0, p1⟩ := pr
  have CH := hide (fun W => challenge_ok p q m W (inB_isM hp) (inB_isM hq) hm)
  clear ha hm
  unfold saysB
  have c0 := chV_lo p q m
  have c1 := chV_hi p q m
  generalize chV p q m = c at *
  have PA := hide (fun W => power_any 64 a W (by omega) (by omega) a0 (by omega))
  have PC := hide (fun W => power_any q c W (by omega) (by omega) c0 (by omega))
  have u0 := pwZ_lo 64 a
  have u1 := pwZ_hi 64 a
  have v0 := pwZ_lo q c
  have v1 := pwZ_hi q c
  generalize pwZ 64 a = u at *
  generalize pwZ q c = v at *
  have hm0 : 0 ≤ p * v := Int.mul_nonneg (by omega) v0
  have hm1 : p * v ≤ 1543 * 1543 := Int.mul_le_mul (by omega) (by omega) (by omega) (by omega)
  go_enter Tryz.func83, Tryz.ntmps83
  go_wp2_with (go_at_call 109; refine (public_is _ _).mono ?_; rintro e w' ⟨rfl, rfl⟩)
  refine (CH.out _).mono ?_
  rintro e w1 ⟨rfl, hb1⟩
  have HB1 := hide (below_on HB.out hb1)
  have HG1 := hide (blk_below HG.out hb1)
  clear hb1 HB HG
  obtain ⟨r0, r1⟩ := seal_cells HG1.out
  go_wp2_with (fail)
  go_quiet (first | (go_at_call_of 40 (Value.int .i64 a); exact Calls.quiet_of_same (PA.out _)) | (go_at_call_of 40 (Value.int .i64 c); exact Calls.quiet_of_same (PC.out _)))
  go_wp2
  go_ret2
  exact ⟨by rfl, below_quiet HB1.out _⟩

theorem check_any (q m p a : Int) (w : World) :
    Calls Tryz.prog 83 #[.int .i64 q, .int .i64 m, .agg (sealC p a)] w fun e w' => e = .returned (.tuple #[.bool (chkB q m p a), errV 63 (chkC q m p a)]) ∧ Below w.heap.size w w' := by
  cases hq : inB q with
  | false =>
    have hf := form_no (m := m) (p := p) (a := a) (Or.inl hq)
    rw [chkB_no hf, chkC_no hf]
    exact check_form q m p a w (Or.inl hq)
  | true =>
    cases hp : inB p with
    | false =>
      have hf := form_no (q := q) (m := m) (a := a) (Or.inr (Or.inl hp))
      rw [chkB_no hf, chkC_no hf]
      exact check_form q m p a w (Or.inr (Or.inl hp))
    | true =>
      cases ha : ansB a with
      | false =>
        have hf := form_no (q := q) (m := m) (p := p) (Or.inr (Or.inr (Or.inr ha)))
        rw [chkB_no hf, chkC_no hf]
        exact check_form q m p a w (Or.inr (Or.inr ha))
      | true =>
        cases hm : isM m with
        | false =>
          have hf := form_no (q := q) (p := p) (a := a) (Or.inr (Or.inr (Or.inl hm)))
          rw [chkB_no hf, chkC_no hf]
          exact check_meas q m p a w hq hp ha hm
        | true =>
          have hf := formB_iff.2 ⟨hq, hp, hm, ha⟩
          rw [chkB_ok hf, chkC_ok hf]
          exact check_ok q m p a w hq hp ha hm

set_option maxHeartbeats 2000000 in
theorem hold_any (q m p a : Int) (w : World) :
    Calls Tryz.prog 58 #[.int .i64 q, .int .i64 m, .agg (sealC p a)] w fun e w' => e = .returned (errV 63 (rigC q m p a)) ∧ Below w.heap.size w w' := by
  have HB0 := hide (below_new w (.cells (sealC p a) 48))
  have CK := hide (fun W => check_any q m p a W)
  have RC := hide (rig_chk q m p a)
  unfold sealC at HB0 CK ⊢
  generalize rigC q m p a = rc at *
  generalize chkC q m p a = cc at *
  generalize chkB q m p a = cb at *
  go_enter Tryz.func58, Tryz.ntmps58
  go_wp2_with (fail)
  refine (CK.out _).mono ?_
  rintro e w2 ⟨rfl, hb2⟩
  have HB2 := hide (below_on HB0.out hb2)
  clear hb2 HB0 CK
  rcases RC.out with ⟨rfl, rfl, rfl⟩ | ⟨rfl, rfl, rfl⟩ | ⟨rfl, rfl, rfl⟩
  · rw [errV_zero]
    go_wp2
    go_ret
    exact ⟨rfl, HB2.out⟩
  · rw [errV_zero]
    go_wp2
    go_ret
    exact ⟨rfl, HB2.out⟩
  · rw [errV_one]
    go_wp2
    go_ret
    exact ⟨rfl, HB2.out⟩
end Go.Proofs.YtgnpffkfbacejaaGreatDoor.Key
namespace Go.Proofs.YtgnpffkfbacejaaGreatDoor.M
open Go.RowKit Go.ChangeShapes Go.WideShapes Go.ChangeAt

section
variable {α : Type} {n : Nat} {cv : α → List Value}

/-- A slice of records that stand in memory: none at all, or rows of cells from one address on. -/
def RRow (n : Nat) (cv : α → List Value) (w : World) (a : Option Addr) (xs : List α) : Prop :=
  xs = [] ∨ ∃ b off, a = some ⟨b, off, none⟩ ∧ ∀ (k : Nat) (x : α), xs[k]? = some x → ∀ (j : Nat) (v : Value), (cv x)[j]? = some v → w.cell? ⟨b, off + k * n + j, none⟩ = some v
theorem RRow.nil (w : World) (a : Option Addr) : RRow n cv w a [] := Or.inl rfl
theorem RRow.below {w w' : World} {a : Option Addr} {xs : List α} (h : RRow n cv w a xs) (hb : Below w.heap.size w w') : RRow n cv w' a xs := by
  rcases h with h | ⟨b, off, ha, hc⟩
  · exact Or.inl h
  · refine Or.inr ⟨b, off, ha, fun k x hx j v hv => ?_⟩
    have h1 := hc k x hx j v hv
    rw [hb.cell (p := ⟨b, off + k * n + j, none⟩) (World.block_lt_of_cell? w _ h1)]
    exact h1
theorem RRow.take {w : World} {a : Option Addr} {xs : List α} (h : RRow n cv w a xs) (k : Nat) : RRow n cv w a (xs.take k) := by
  rcases h with h | ⟨b, off, ha, hc⟩
  · exact Or.inl (by rw [h]; simp)
  · refine Or.inr ⟨b, off, ha, fun i x hx => hc i x ?_⟩
    rw [List.getElem?_take] at hx
    split at hx
    · exact hx
    · cases hx
theorem RRow.drop {w : World} {b off : Nat} {xs : List α} (h : RRow n cv w (some ⟨b, off, none⟩) xs) (k : Nat) : RRow n cv w (some ⟨b, off + k * n, none⟩) (xs.drop k) := by
  rcases h with h | ⟨b', off', ha, hc⟩
  · exact Or.inl (by rw [h]; simp)
  · cases ha
    refine Or.inr ⟨b, off + k * n, rfl, fun i x hx j v hv => ?_⟩
    rw [List.getElem?_drop] at hx
    have := hc (k + i) x hx j v hv
    rw [Nat.add_mul, ← Nat.add_assoc] at this
    exact this
theorem RRow.dropO {w : World} {a : Option Addr} {xs : List α} (h : RRow n cv w a xs) (k : Nat) : RRow n cv w (a.map (fun x => x.add (k * n))) (xs.drop k) := by
  have h0 := h
  rcases h with h | ⟨b, off, ha, hc⟩
  · exact Or.inl (by rw [h]; simp)
  · subst ha
    have := RRow.drop h0 k
    rw [Option.map_some, add_none]
    exact this
/-- The address of a row that is none of none. -/
theorem RRow.at {w : World} {a : Option Addr} {xs : List α} {k : Nat} {x : α} (h : RRow n cv w a xs) (hx : xs[k]? = some x) :
    ∃ b off, a = some ⟨b, off, none⟩ ∧ ∀ (j : Nat) (v : Value), (cv x)[j]? = some v → w.cell? ⟨b, off + k * n + j, none⟩ = some v := by
  rcases h with h | ⟨b, off, ha, hc⟩
  · rw [h] at hx; simp at hx
  · exact ⟨b, off, ha, hc k x hx⟩

/-- A row of records that the call itself made. -/
def OwnR (n : Nat) (cv : α → List Value) (w : World) (base : Nat) (e : TypeId) (v : Value) (xs : List α) : Prop := w.ownsRow base e n v xs.length (xs.flatMap cv)
theorem OwnR.nil (w : World) (base : Nat) (e : TypeId) : OwnR n cv w base e (.slice none 0 0) [] := World.ownsRow_nil w base e n
theorem OwnR.alloc {w : World} {base : Nat} {e : TypeId} {v : Value} {xs : List α} (h : OwnR n cv w base e v xs) (o : Obj) : OwnR n cv (w.alloc o) base e v xs := World.ownsRow.alloc h o
theorem OwnR.block {w : World} {base : Nat} {e : TypeId} {v : Value} {xs : List α} (h : OwnR n cv w base e v xs) : ∀ k, v.ownBlock = some k → base ≤ k := fun k hk => (World.ownsRow.lt h k hk).1
theorem OwnR.below {w w' : World} {base : Nat} {e : TypeId} {v : Value} {xs : List α} (h : OwnR n cv w base e v xs) (hb : Below w.heap.size w w') : OwnR n cv w' base e v xs := by
  refine ⟨h.1, ?_⟩
  rcases h.2 with h2 | ⟨g, cap, cur, h1, h2, h3, h4⟩
  · exact Or.inl h2
  · exact Or.inr ⟨g, cap, cur, h1, h2, blk_below h3 hb, h4⟩
theorem flat_at (hl : ∀ x, (cv x).length = n) : ∀ (xs : List α) (k : Nat) (x : α), xs[k]? = some x → ∀ (j : Nat), j < n → (xs.flatMap cv)[k * n + j]? = (cv x)[j]?
  | [], k, x, hx, j, hj => by simp at hx
  | y :: r, 0, x, hx, j, hj => by
    simp at hx
    subst hx
    rw [List.flatMap_cons, Nat.zero_mul, Nat.zero_add, List.getElem?_append_left (by rw [hl]; exact hj)]
  | y :: r, k + 1, x, hx, j, hj => by
    rw [List.flatMap_cons, List.getElem?_append_right (by rw [hl, Nat.succ_mul]; omega), hl, show (k + 1) * n + j - n = k * n + j by rw [Nat.succ_mul]; omega]
    exact flat_at hl r k x (by simpa using hx) j hj
theorem OwnR.row {w : World} {base : Nat} {e : TypeId} {v : Value} {xs : List α} (hl : ∀ x, (cv x).length = n) (h : OwnR n cv w base e v xs) : ∃ a cap, v = .slice a xs.length cap ∧ (a = none → cap = 0) ∧ RRow n cv w a xs := by
  have h0 := h
  obtain ⟨_, h2⟩ := h
  rcases h2 with ⟨hv, hn⟩ | ⟨g, cap, cur, hv, _, _, _, _, _, _⟩
  · exact ⟨none, 0, by rw [hv, hn], fun _ => rfl, Or.inl (List.length_eq_zero_iff.1 hn)⟩
  · refine ⟨some ⟨g, 0, none⟩, cap, hv, fun hno => (by cases hno), Or.inr ⟨g, 0, rfl, fun k x hx j u hu => ?_⟩⟩
    have hj : j < n := by have := (List.getElem?_eq_some_iff.1 hu).1; rw [hl] at this; exact this
    have hc := World.ownsRow.cells (g := g) h0 (by rw [hv]; rfl) (k * n + j) u (by rw [flat_at hl xs k x hx j hj]; exact hu)
    rw [add_none] at hc
    rw [Nat.zero_add] at hc ⊢
    exact hc

/-- 'x = append(x, y)' where x is a row of records of the call's own: a law for the walk. -/
theorem wpList_appR {P : Program} {w : World} {ops : Array Oper} {rest : List Oper} {o : Oper} {a : Act} {Q : Exit → Act → World → Prop} (hgd : o.guard = none) (s x : Operand) (t : TypeId)
    (ho : o.op = .call { callee := .builtin .append, args := #[s, x], argTypes := #[t, t] })
    (base : Nat) (e : TypeId) (z : Value) (bytes : Nat) (hinfo : (P.info? e).map (fun i => (i.zero, i.size, i.bytes)) = some (some z, n, bytes)) (hz : z.cells.size = n) (hn : 0 < n) (hby : bytes ≤ 1000000) (ht : P.underlying t = some (.slice e))
    (hl : ∀ x, (cv x).length = n) (h1 : ∀ x, ∀ u ∈ cv x, u.oneCell' = true)
    (v : Value) (xs : List α) (hs : a.eval s = v) (hown : OwnR n cv w base e v xs)
    (b : Nat) (y : α) (hx : a.eval x = .slice (some ⟨b, 0, none⟩) 1 1) (hcell : ∀ (j : Nat) (u : Value), (cv y)[j]? = some u → w.cell? ⟨b, j, none⟩ = some u)
    (hb : xs.length ≤ 1000000) (hbase : base ≤ w.heap.size)
    (h : ∀ v' w', OwnR n cv w' base e v' (xs ++ [y]) → w.grownBy w' v.ownBlock → wpList P ops Q rest (a.put o.dst v') w') : wpList P ops Q (o :: rest) a w := by
  obtain ⟨i, hi, hz0, hz1, hz2⟩ := info_parts hinfo
  have hbb : (xs.length + 1) * bytes ≤ 140737488355328 := Nat.le_trans (Nat.mul_le_mul (Nat.succ_le_succ hb) hby) (by omega)
  refine wpList_append_own w hgd s x t ho base e i z n bytes ht hi hz0 hz1 hz2 hz hn v xs.length _ hs hown ⟨b, 0, none⟩ 1 1 (cv y) hx (by rw [hl, Nat.one_mul]) ?_ (h1 y) (by unfold maxLen; omega) hbb hbase ?_
  · intro j u hj
    rw [add_none, Nat.zero_add]
    exact hcell j u hj
  · intro v' w' h2 h3 _
    refine h v' w' ?_ h3
    unfold OwnR
    rw [List.length_append, List.flatMap_append, List.flatMap_singleton]
    exact h2
theorem flat_len (hl : ∀ x, (cv x).length = n) : ∀ xs : List α, (xs.flatMap cv).length = xs.length * n
  | [] => by simp
  | x :: r => by rw [List.flatMap_cons, List.length_append, hl, flat_len hl r, List.length_cons, Nat.succ_mul]; omega
/-- 'x = append(x, ys...)' where x is a row of records of the call's own and ys can be read: a law for the walk. -/
theorem wpList_appRs {P : Program} {w : World} {ops : Array Oper} {rest : List Oper} {o : Oper} {a : Act} {Q : Exit → Act → World → Prop} (hgd : o.guard = none) (s x : Operand) (t : TypeId)
    (ho : o.op = .call { callee := .builtin .append, args := #[s, x], argTypes := #[t, t] })
    (base : Nat) (e : TypeId) (z : Value) (bytes : Nat) (hinfo : (P.info? e).map (fun i => (i.zero, i.size, i.bytes)) = some (some z, n, bytes)) (hz : z.cells.size = n) (hn : 0 < n) (hby : bytes ≤ 1000000) (ht : P.underlying t = some (.slice e))
    (hl : ∀ x, (cv x).length = n) (v : Value) (xs : List α) (hs : a.eval s = v) (hown : OwnR n cv w base e v xs)
    (ad : Option Addr) (m c : Nat) (ys : List α) (hx : a.eval x = .slice ad m c) (hm : m = ys.length) (hc : ad = none → c = 0) (hrow : RRow n cv w ad ys) (h1 : ∀ y ∈ ys, ∀ u ∈ cv y, u.oneCell' = true)
    (hb : xs.length + ys.length ≤ 1000000) (hbase : base ≤ w.heap.size)
    (h : ∀ v' w', OwnR n cv w' base e v' (xs ++ ys) → w.grownBy w' v.ownBlock → wpList P ops Q rest (a.put o.dst v') w') : wpList P ops Q (o :: rest) a w := by
  obtain ⟨i, hi, hz0, hz1, hz2⟩ := info_parts hinfo
  subst hm
  cases ad with
  | none =>
    have hy : ys = [] := by
      rcases hrow with h | ⟨b, off, h, _⟩
      · exact h
      · cases h
    subst hy
    rw [hc rfl] at hx
    exact wpList_append_own_none hgd s x t ho base e i n ht hi v xs.length _ hs hown hx (h v w (by simpa using hown) ⟨rfl, rfl, rfl, Nat.le_refl _, fun _ _ _ => rfl⟩)
  | some ad =>
    have hbb : (xs.length + ys.length) * bytes ≤ 140737488355328 := Nat.le_trans (Nat.mul_le_mul hb hby) (by omega)
    refine wpList_append_own w hgd s x t ho base e i z n bytes ht hi hz0 hz1 hz2 hz hn v xs.length _ hs hown ad ys.length c (ys.flatMap cv) hx (flat_len hl ys) ?_ ?_ (by unfold maxLen; omega) hbb hbase ?_
    · intro j u hj
      rcases hrow with h | ⟨b, off, h, hcell⟩
      · subst h; simp at hj
      · cases h
        have hlt : j < ys.length * n := by have := (List.getElem?_eq_some_iff.1 hj).1; rw [flat_len hl] at this; exact this
        have hk : j / n < ys.length := Nat.div_lt_of_lt_mul (by rw [Nat.mul_comm]; exact hlt)
        have hyk := List.getElem?_eq_getElem hk
        have e1 : j / n * n + j % n = j := by rw [Nat.mul_comm]; exact Nat.div_add_mod j n
        have e2 := flat_at hl ys (j / n) _ hyk (j % n) (Nat.mod_lt _ hn)
        rw [e1, hj] at e2
        have := hcell (j / n) _ hyk (j % n) u e2.symm
        rw [Nat.add_assoc, e1] at this
        rw [add_none]
        exact this
    · intro u hu
      obtain ⟨y, hy, hu2⟩ := List.mem_flatMap.1 hu
      exact h1 y hy u hu2
    · intro v' w' h2 h3 _
      refine h v' w' ?_ h3
      unfold OwnR
      rw [List.length_append, List.flatMap_append]
      exact h2
end

/-- How a slice of records among the arguments reads, opened, where each record's cells are known of its own reading. -/
theorem open_recsQ {α : Type} {Q : α → Prop} {n : Nat} {cv : α → List Value} {H : Type} {enc : TypeId × Value → H} {P : Program} {W : World} {b0 : Nat} {sp : Nat → Bool} {hd : Bool} {t e : TypeId} {a : Option Addr} {len cap : Nat} {d : DataW H} {ps : List MemPlace}
    (hu : P.underlying t = some (.slice e)) (hce : P.cellsOf e = n) (hn : 0 < n) (hel : ∀ (fuel : Nat) (cs : List Value) (x : DataW H × List MemPlace), DataW.trod enc P W b0 sp hd fuel e cs = some x → ∃ r : α, cs = cv r ∧ Q r)
    (h : DataW.Trod enc P W b0 sp hd t (.slice a len cap) d ps) :
    ∃ xs : List α, len = xs.length ∧ len ≤ maxLen ∧ len ≤ cap ∧ cap ≤ maxLen ∧ (a = none → cap = 0) ∧ (∀ ad, a = some ad → 0 < len → ad.spot = none) ∧ RRow n cv W a xs ∧ ∀ r ∈ xs, Q r := by
  obtain ⟨fuel, hf⟩ := h
  rcases DataW.trod_slice hu hf with ⟨hcs, _⟩ | ⟨x, l, c, elems, rest, m, _, hcs, _, hb, hlc, hm, hlen, hat, _, _⟩
  · simp [Value.cells] at hcs
    obtain ⟨rfl, rfl, rfl⟩ := hcs
    exact ⟨[], rfl, by unfold maxLen; omega, Nat.le_refl _, by unfold maxLen; omega, fun _ => rfl, fun ad h => (by cases h), Or.inl rfl, fun r h => by simp at h⟩
  · simp [Value.cells] at hcs
    obtain ⟨rfl, rfl, rfl⟩ := hcs
    rw [hce] at hat
    have hex : ∀ i, i < len → ∃ r : α, W.cells? b0 (x.add (i * n)) n = some (cv r) ∧ Q r := by
      intro i hi
      have h1 := hat i hi
      rw [List.getElem?_eq_getElem (by omega), Option.bind_eq_some_iff] at h1
      obtain ⟨cs, h2, h3⟩ := h1
      obtain ⟨r, rfl, hq⟩ := hel _ _ _ h3
      exact ⟨r, h2, hq⟩
    have hls : ∀ k, k ≤ len → ∃ xs : List α, xs.length = k ∧ ∀ (i : Nat) (r : α), xs[i]? = some r → W.cells? b0 (x.add (i * n)) n = some (cv r) ∧ Q r := by
      intro k
      induction k with
      | zero => exact fun _ => ⟨[], rfl, fun i r h => by simp at h⟩
      | succ k ih =>
        intro hk
        obtain ⟨xs, h1, h2⟩ := ih (by omega)
        obtain ⟨r, hr⟩ := hex k (by omega)
        refine ⟨xs ++ [r], by simp [h1], fun i q hq => ?_⟩
        by_cases hi : i < xs.length
        · rw [List.getElem?_append_left hi] at hq; exact h2 i q hq
        · rw [List.getElem?_append_right (by omega)] at hq
          by_cases he : i - xs.length = 0
          · rw [he] at hq
            simp at hq
            subst hq
            rw [show i = k by omega]
            exact hr
          · rw [List.getElem?_eq_none (by simp; omega)] at hq
            cases hq
    obtain ⟨xs, hx1, hx2⟩ := hls len (Nat.le_refl _)
    have hspot : 0 < len → x.spot = none := by
      intro h0
      obtain ⟨r, hr, _⟩ := hex 0 h0
      have hc := World.cells?_some hr
      have h1 := hc.2.2 0 hn
      have hlt : 0 < (cv r).length := by have := hc.2.1; omega
      rw [List.getElem?_eq_getElem hlt] at h1
      have h2 := World.cell?_spot h1
      obtain ⟨bb, oo, ss⟩ := x
      cases ss with
      | none => rfl
      | some q => simp [Addr.add] at h2
    refine ⟨xs, hx1.symm, by omega, hlc, hm, fun hno => (by cases hno), fun ad had h0 => (by cases had; exact hspot h0), ?_, fun r hr => (by obtain ⟨i, hi⟩ := List.getElem?_of_mem hr; exact (hx2 i r hi).2)⟩
    by_cases h0 : len = 0
    · exact Or.inl (List.length_eq_zero_iff.1 (by omega))
    · obtain ⟨b, off, spot⟩ := x
      have hs : spot = none := hspot (by omega)
      subst hs
      refine Or.inr ⟨b, off, rfl, fun k r hr j v hv => ?_⟩
      have hc := World.cells?_some (hx2 k r hr).1
      have hj : j < n := by have := (List.getElem?_eq_some_iff.1 hv).1; have := hc.2.1; omega
      have h1 := hc.2.2 j hj
      rw [add_none, add_none, hv] at h1
      exact h1
theorem open_recs {α : Type} {n : Nat} {cv : α → List Value} {H : Type} {enc : TypeId × Value → H} {P : Program} {W : World} {b0 : Nat} {sp : Nat → Bool} {hd : Bool} {t e : TypeId} {a : Option Addr} {len cap : Nat} {d : DataW H} {ps : List MemPlace}
    (hu : P.underlying t = some (.slice e)) (hce : P.cellsOf e = n) (hn : 0 < n) (hel : ∀ (fuel : Nat) (cs : List Value) (x : DataW H × List MemPlace), DataW.trod enc P W b0 sp hd fuel e cs = some x → ∃ r : α, cs = cv r)
    (h : DataW.Trod enc P W b0 sp hd t (.slice a len cap) d ps) :
    ∃ xs : List α, len = xs.length ∧ len ≤ maxLen ∧ len ≤ cap ∧ cap ≤ maxLen ∧ (a = none → cap = 0) ∧ (∀ ad, a = some ad → 0 < len → ad.spot = none) ∧ RRow n cv W a xs := by
  obtain ⟨xs, h1, h2, h3, h4, h5, h6, h7, _⟩ := open_recsQ (Q := fun _ => True) hu hce hn (fun f cs x hx => by obtain ⟨r, hr⟩ := hel f cs x hx; exact ⟨r, hr, trivial⟩) h
  exact ⟨xs, h1, h2, h3, h4, h5, h6, h7⟩
end Go.Proofs.YtgnpffkfbacejaaGreatDoor.M
namespace Go.Proofs.YtgnpffkfbacejaaGreatDoor.M

/-- A cert: its key, and its seal's point and answer; its cells. -/
def certV (c : Int × Int × Int) : List Value := [.int .i64 c.1, .int .i64 c.2.1, .int .i64 c.2.2]
theorem certV_len (c : Int × Int × Int) : (certV c).length = 3 := rfl
theorem certV_one (c : Int × Int × Int) : ∀ u ∈ certV c, u.oneCell' = true := by
  intro u hu
  simp [certV] at hu
  rcases hu with rfl | rfl | rfl <;> rfl
/-- The last key, and the fault, of certs behind a key that is one. -/
def lastF : Int → List (Int × Int × Int) → Int × Int
  | root, [] => (root, 0)
  | root, c :: r => if inB c.1 = true then (if rigC root c.1 c.2.1 c.2.2 = 0 then lastF c.1 r else (0, rigC root c.1 c.2.1 c.2.2)) else (0, 1)
theorem lastF_nil (root : Int) : lastF root [] = (root, 0) := rfl
theorem lastF_in {root : Int} {c : Int × Int × Int} {r : List (Int × Int × Int)} (h : inB c.1 = false) : lastF root (c :: r) = (0, 1) := by rw [lastF, h]; rfl
theorem lastF_ok {root : Int} {c : Int × Int × Int} {r : List (Int × Int × Int)} (h : inB c.1 = true) (h2 : rigC root c.1 c.2.1 c.2.2 = 0) : lastF root (c :: r) = lastF c.1 r := by rw [lastF, if_pos h, if_pos h2]
theorem lastF_bad {root : Int} {c : Int × Int × Int} {r : List (Int × Int × Int)} (h : inB c.1 = true) (h2 : ¬ rigC root c.1 c.2.1 c.2.2 = 0) : lastF root (c :: r) = (0, rigC root c.1 c.2.1 c.2.2) := by rw [lastF, if_pos h, if_neg h2]
def lastO (root : Int) (l : List (Int × Int × Int)) : Int × Int := if 12 < l.length then (0, 4) else if inB root = true then lastF root l else (0, 1)
def lastV (root : Int) (l : List (Int × Int × Int)) : Int := (lastO root l).1
def lastC (root : Int) (l : List (Int × Int × Int)) : Int := (lastO root l).2
theorem lastO_full {root : Int} {l : List (Int × Int × Int)} (h : 12 < l.length) : lastV root l = 0 ∧ lastC root l = 4 := by unfold lastV lastC lastO; rw [if_pos h]; exact ⟨rfl, rfl⟩
theorem lastO_root {root : Int} {l : List (Int × Int × Int)} (h : ¬ 12 < l.length) (hr : inB root = false) : lastV root l = 0 ∧ lastC root l = 1 := by unfold lastV lastC lastO; rw [if_neg h, hr]; exact ⟨rfl, rfl⟩
theorem lastO_go {root : Int} {l : List (Int × Int × Int)} (h : ¬ 12 < l.length) (hr : inB root = true) : lastV root l = (lastF root l).1 ∧ lastC root l = (lastF root l).2 := by unfold lastV lastC lastO; rw [if_neg h, if_pos hr]; exact ⟨rfl, rfl⟩
theorem lastC_zero {root : Int} {l : List (Int × Int × Int)} (h : lastC root l = 0) : ¬ 12 < l.length ∧ inB root = true ∧ lastF root l = (lastV root l, 0) := by
  by_cases h1 : 12 < l.length
  · rw [(lastO_full h1).2] at h; cases h
  · cases hr : inB root with
    | false => rw [(lastO_root h1 hr).2] at h; cases h
    | true =>
      obtain ⟨e1, e2⟩ := lastO_go (l := l) h1 hr
      exact ⟨h1, rfl, by rw [e1, ← h, e2]⟩
theorem lastV_nil (root : Int) : lastV root [] = (if inB root = true then root else 0) ∧ lastC root [] = (if inB root = true then 0 else 1) := by
  unfold lastV lastC lastO
  rw [if_neg (by simp)]
  cases h : inB root <;> simp [lastF]
/-- What is right goes on from its first part. -/
theorem lastF_split : ∀ (l r : List (Int × Int × Int)) (root n : Int), inB root = true → lastF root (l ++ r) = (n, 0) → ∃ m, inB m = true ∧ lastF root l = (m, 0) ∧ lastF m r = (n, 0)
  | [], r, root, n, hr, h => ⟨root, hr, rfl, h⟩
  | c :: l, r, root, n, hr, h => by
    cases hc : inB c.1 with
    | false =>
      rw [List.cons_append, lastF_in hc] at h
      cases h
    | true =>
      by_cases h2 : rigC root c.1 c.2.1 c.2.2 = 0
      · rw [List.cons_append, lastF_ok hc h2] at h
        obtain ⟨m, h3, h4, h5⟩ := lastF_split l r c.1 n hc h
        exact ⟨m, h3, by rw [lastF_ok hc h2, h4], h5⟩
      · rw [List.cons_append, lastF_bad hc h2] at h
        exact absurd (congrArg Prod.snd h) h2
theorem last_split {root : Int} {l : List (Int × Int × Int)} (k : Nat) (h : lastC root l = 0) :
    lastC root (l.take k) = 0 ∧ lastC (lastV root (l.take k)) (l.drop k) = 0 ∧ lastV (lastV root (l.take k)) (l.drop k) = lastV root l := by
  obtain ⟨h1, h2, h3⟩ := lastC_zero h
  rw [← List.take_append_drop k l] at h3
  obtain ⟨m, h4, h5, h6⟩ := lastF_split _ _ _ _ h2 h3
  rw [List.take_append_drop] at h6
  have e1 := lastO_go (root := root) (l := l.take k) (by simp; omega) h2
  have e2 := lastO_go (root := m) (l := l.drop k) (by simp; omega) h4
  rw [h5] at e1
  rw [h6] at e2
  rw [e1.1]
  exact ⟨e1.2, e2.2, e2.1⟩
/-- A cert that was made: what is wrong, and the cert. -/
def mkC (x k q : Int) : Int := if inB q = true then sigC x k q else 1
def mkV (x k q : Int) : Int × Int × Int := if mkC x k q = 0 then (q, sigP x k q, sigA x k q) else (0, 0, 0)
theorem mkC_ok {x k q : Int} (h : inB q = true) : mkC x k q = sigC x k q := if_pos h
theorem mkC_no {x k q : Int} (h : inB q = false) : mkC x k q = 1 := by unfold mkC; rw [h]; rfl
theorem mkV_ok {x k q : Int} (h : mkC x k q = 0) : mkV x k q = (q, sigP x k q, sigA x k q) := if_pos h
theorem mkV_no {x k q : Int} (h : ¬ mkC x k q = 0) : mkV x k q = (0, 0, 0) := if_neg h
theorem mk_own {x k y : Int} (hx : secB x = true) (hk : secB k = true) : mkC x k (pwZ 64 y) = 0 := by
  rw [mkC_ok (pwZ_in y), sigC_ok hx hk (inB_isM (pwZ_in y))]
theorem mk_not {x k y : Int} (hx : secB x = true) (h : ¬ mkC x k (pwZ 64 y) = 0) : k < 1 ∨ 256 < k := by
  cases hk : secB k with
  | true => exact absurd (mk_own hx hk) h
  | false => have := secB_not.1 hk; omega
/-- It is right by the key of who made it. -/
theorem rig_own {x k m : Int} (hx : secB x = true) (hk : secB k = true) (hm : isM m = true) : rigC (pwZ 64 x) m (sigP x k m) (sigA x k m) = 0 := by
  rw [sigP_ok hx hk hm]
  refine rigC_yes (formB_iff.2 ⟨pwZ_in x, pwZ_in k, hm, sigA_ans⟩) ?_
  rw [says_own hx hk hm sigA_ans]
  exact decide_eq_true rfl
/-- Certs that each one makes for the next. -/
def chainC (k : Int) : List Int → List (Int × Int × Int)
  | [] => []
  | [_] => []
  | s :: t :: r => mkV s k (pwZ 64 t) :: chainC k (t :: r)
theorem chain_snoc (k : Int) : ∀ (l : List Int) (s t : Int), chainC k (l ++ [s, t]) = chainC k (l ++ [s]) ++ [mkV s k (pwZ 64 t)]
  | [], s, t => rfl
  | [a], s, t => rfl
  | a :: b :: l, s, t => by
    have h := chain_snoc k (b :: l) s t
    simp only [List.cons_append, chainC] at h ⊢
    rw [h]
theorem chain_len (k : Int) : ∀ (l : List Int), (chainC k l).length = l.length - 1
  | [] => rfl
  | [_] => rfl
  | s :: t :: r => by
    have h := chain_len k (t :: r)
    simp only [chainC, List.length_cons] at h ⊢
    omega
theorem chain_last {k : Int} (hk : secB k = true) : ∀ (l : List Int) (s : Int), (∀ x ∈ s :: l, secB x = true) → lastF (pwZ 64 s) (chainC k (s :: l)) = (pwZ 64 ((s :: l).getLastD 0), 0)
  | [], s, h => rfl
  | t :: r, s, h => by
    have hs := h s (by simp)
    have ht : ∀ x ∈ t :: r, secB x = true := fun x hx => h x (List.mem_cons_of_mem _ hx)
    have hm := inB_isM (pwZ_in t)
    have e := mkV_ok (mk_own (y := t) hs hk)
    have h2 := chain_last hk r t ht
    rw [chainC, e, lastF_ok (c := (pwZ 64 t, sigP s k (pwZ 64 t), sigA s k (pwZ 64 t))) (pwZ_in t) (rig_own hs hk hm)]
    simpa using h2
end Go.Proofs.YtgnpffkfbacejaaGreatDoor.M
namespace Go.Proofs.YtgnpffkfbacejaaGreatDoor.M

theorem mea_is (nm : ByteArray) (v : Int) (cd : ByteArray) : isM (meaV nm v cd) = true := by
  rw [isM_iff]
  unfold meaV
  split
  · exact ofFrom_range 1 _ (by omega) (by omega)
  · omega
/-- A signed image that is made: what is wrong, and its seal. -/
def sgnE (x k : Int) (nm : ByteArray) (v : Int) (cd : ByteArray) : Int := if imgE nm v cd = 0 then sigC x k (meaV nm v cd) else imgE nm v cd
/-- A signed image that is checked: what is wrong. -/
def sldE (q : Int) (nm : ByteArray) (v : Int) (cd : ByteArray) (p a : Int) : Int := if imgE nm v cd = 0 then rigC q (meaV nm v cd) p a else imgE nm v cd
section
variable {x k q p a v : Int} {nm cd : ByteArray}
theorem sgnE_img (h : ¬ imgE nm v cd = 0) : sgnE x k nm v cd = imgE nm v cd := if_neg h
theorem sgnE_ok (h : imgE nm v cd = 0) : sgnE x k nm v cd = sigC x k (meaV nm v cd) := if_pos h
theorem sgnE_zero (h : sgnE x k nm v cd = 0) : imgE nm v cd = 0 ∧ sigC x k (meaV nm v cd) = 0 := by
  by_cases hE : imgE nm v cd = 0
  · exact ⟨hE, (sgnE_ok hE).symm.trans h⟩
  · exact absurd ((sgnE_img hE).symm.trans h) hE
theorem sldE_img (h : ¬ imgE nm v cd = 0) : sldE q nm v cd p a = imgE nm v cd := if_neg h
theorem sldE_ok (h : imgE nm v cd = 0) : sldE q nm v cd p a = rigC q (meaV nm v cd) p a := if_pos h
theorem sigC_meas {m m' : Int} (h : isM m = true) (h' : isM m' = true) : sigC x k m = sigC x k m' := by
  unfold sigC
  rw [h, h']
/-- What is signed is right by its key; with another answer it is not. -/
theorem sld_own (h : sgnE x k nm v cd = 0) : sldE (pwZ 64 x) nm v cd (sigP x k (meaV nm v cd)) (sigA x k (meaV nm v cd)) = 0 := by
  obtain ⟨h1, h2⟩ := sgnE_zero h
  obtain ⟨hx, hk, hm⟩ := sigC_zero h2
  rw [sldE_ok h1, rig_own hx hk hm]
theorem sld_range {other : Int} (h : sgnE x k nm v cd = 0) (ho : ansB other = false) : sldE (pwZ 64 x) nm v cd (sigP x k (meaV nm v cd)) other = 1 := by
  obtain ⟨h1, h2⟩ := sgnE_zero h
  rw [sldE_ok h1, rigC_no (form_no (Or.inr (Or.inr (Or.inr ho))))]
theorem sld_other {other : Int} (h : sgnE x k nm v cd = 0) (ho : ansB other = true) (hne : ¬ other = sigA x k (meaV nm v cd)) : sldE (pwZ 64 x) nm v cd (sigP x k (meaV nm v cd)) other = 8 := by
  obtain ⟨h1, h2⟩ := sgnE_zero h
  obtain ⟨hx, hk, hm⟩ := sigC_zero h2
  rw [sldE_ok h1, sigP_ok hx hk hm]
  exact rigC_else (formB_iff.2 ⟨pwZ_in x, pwZ_in k, hm, ho⟩) (by rw [says_own hx hk hm ho]; exact decide_eq_false hne)
/-- An image that nobody signed is not right. -/
theorem sld_none : ¬ sldE q nm v cd 0 0 = 0 := by
  intro h
  by_cases hE : imgE nm v cd = 0
  · rw [sldE_ok hE, rigC_no (form_no (Or.inr (Or.inl rfl)))] at h
    cases h
  · exact hE ((sldE_img hE).symm.trans h)
end
end Go.Proofs.YtgnpffkfbacejaaGreatDoor.M
namespace Go.Proofs.YtgnpffkfbacejaaGreatDoor.M
/-- The cells of a signed image. -/
def sgnC (nm : ByteArray) (v : Int) (cd : ByteArray) (p a : Int) : Array Value := #[.string nm, .int .i64 v, .string cd, .int .i64 p, .int .i64 a]
theorem cells5 {w : World} {b : Nat} {x0 x1 x2 x3 x4 : Value} {t : TypeId} {fr : Nat × Nat} (h : w.heap[b]? = some (.cells #[x0, x1, x2, x3, x4] t fr)) :
    w.cell? ⟨b, 0, none⟩ = some x0 ∧ w.cell? ⟨b, 1, none⟩ = some x1 ∧ w.cell? ⟨b, 2, none⟩ = some x2 ∧ w.cell? ⟨b, 3, none⟩ = some x3 ∧ w.cell? ⟨b, 4, none⟩ = some x4 := by
  refine ⟨?_, ?_, ?_, ?_, ?_⟩ <;> rw [cell_of_row w b _ _ t fr h] <;> rfl
theorem free5 {w : World} {b : Nat} {c : Array Value} {t : TypeId} (h : w.heap[b]? = some (.cells c t)) :
    w.frozen? ⟨b, 0, none⟩ = false ∧ w.frozen? ⟨b, 1, none⟩ = false ∧ w.frozen? ⟨b, 2, none⟩ = false ∧ w.frozen? ⟨b, 3, none⟩ = false ∧ w.frozen? ⟨b, 4, none⟩ = false :=
  ⟨frozen_of_row w b 0 _ _ h, frozen_of_row w b 1 _ _ h, frozen_of_row w b 2 _ _ h, frozen_of_row w b 3 _ _ h, frozen_of_row w b 4 _ _ h⟩
theorem set5 {w : World} {b : Nat} {a0 a1 a2 a3 a4 x0 x1 x2 x3 x4 : Value} {t : TypeId} {fr : Nat × Nat} (hg : w.heap[b]? = some (.cells #[a0, a1, a2, a3, a4] t fr)) :
    ((((w.setCell ⟨b, 0, none⟩ x0).setCell ⟨b, 1, none⟩ x1).setCell ⟨b, 2, none⟩ x2).setCell ⟨b, 3, none⟩ x3).setCell ⟨b, 4, none⟩ x4 = w.setRow b #[x0, x1, x2, x3, x4] := by
  rw [setCell_eq_setRow w b 0 _ _ _ x0 hg]
  have h1 := setRow_heap w b _ (#[a0, a1, a2, a3, a4].setIfInBounds 0 x0) t fr hg
  rw [setCell_eq_setRow _ b 1 _ _ _ x1 h1, setRow_setRow]
  have h2 := setRow_heap w b _ ((#[a0, a1, a2, a3, a4].setIfInBounds 0 x0).setIfInBounds 1 x1) t fr hg
  rw [setCell_eq_setRow _ b 2 _ _ _ x2 h2, setRow_setRow]
  have h3 := setRow_heap w b _ (((#[a0, a1, a2, a3, a4].setIfInBounds 0 x0).setIfInBounds 1 x1).setIfInBounds 2 x2) t fr hg
  rw [setCell_eq_setRow _ b 3 _ _ _ x3 h3, setRow_setRow]
  have h4 := setRow_heap w b _ ((((#[a0, a1, a2, a3, a4].setIfInBounds 0 x0).setIfInBounds 1 x1).setIfInBounds 2 x2).setIfInBounds 3 x3) t fr hg
  rw [setCell_eq_setRow _ b 4 _ _ _ x4 h4, setRow_setRow]
  rfl
/-- A signed image that was made, in its cells. -/
def mkS (x k : Int) (nm : ByteArray) (v : Int) (cd : ByteArray) : Array Value :=
  if sgnE x k nm v cd = 0 then sgnC nm v cd (sigP x k (meaV nm v cd)) (sigA x k (meaV nm v cd)) else sgnC { data := #[] } 0 { data := #[] } 0 0
theorem mkS_ok {x k v : Int} {nm cd : ByteArray} (h : sgnE x k nm v cd = 0) : mkS x k nm v cd = sgnC nm v cd (sigP x k (meaV nm v cd)) (sigA x k (meaV nm v cd)) := if_pos h
theorem mkS_no {x k v : Int} {nm cd : ByteArray} (h : ¬ sgnE x k nm v cd = 0) : mkS x k nm v cd = sgnC { data := #[] } 0 { data := #[] } 0 0 := if_neg h
end Go.Proofs.YtgnpffkfbacejaaGreatDoor.M
namespace Go.Proofs.YtgnpffkfbacejaaGreatDoor.Sign
open Go.ChangeShapes Go.WideShapes Go.ChangeAt Go.RowKit
open Go.Proofs.YtgnpffkfbacejaaGreatDoor.M Go.Proofs.YtgnpffkfbacejaaGreatDoor.Key Go.Proofs.YtgnpffkfbacejaaGreatDoor.Image
set_option linter.unusedVariables false

theorem info_signed : (Tryz.prog.info? 79).map (·.size) = some 5 := by kernel_rfl
theorem load_signed {w : World} {b : Nat} {c : Array Value} {fr : Nat × Nat} (h : w.heap[b]? = some (.cells c 79 fr)) (hs : c.size = 5) : (loadVar 79 ⟨b, 0, none⟩).run Tryz.prog w = .ok (.agg c) w :=
  run_loadVar_row w b _ _ c fr _ h Tryz.underlying79 rfl (by rw [info_signed, hs])
theorem results_signed {fn : Func} {p u : Tmp} (h : fn.results = #[.cell p 79, .tmp u]) (tmps : Array Value) (w : World) (b : Nat) (c : Array Value) (v : Value) (hp : tmps.getD p undef = .pointer (some ⟨b, 0, none⟩)) (hu : tmps.getD u undef = v)
    (hg : w.heap[b]? = some (.cells c 79)) (hs : c.size = 5) : (results fn tmps).run Tryz.prog w = .ok (.tuple #[.agg c, v]) w := by
  rw [results_cell_tmp h, hp, hu]
  simp [asAddr, load_signed hg hs, Result.andThen]

set_option maxHeartbeats 4000000 in
theorem check_any (q v p a : Int) (nm cd : ByteArray) (w : World) (hn : nm.size ≤ 140737488351232) (hc : cd.size ≤ 140737488351232) (hh : Has w) :
    Calls Tryz.prog 35 #[.int .i64 q, .agg (sgnC nm v cd p a)] w fun e w' => e = .returned (errV 63 (sldE q nm v cd p a)) ∧ Below w.heap.size w w' := by
  have HB := hide (below_new w (.cells (sgnC nm v cd p a) 79))
  have HG := hide (blk_new w (.cells (sgnC nm v cd p a) 79))
  have ME := hide (fun (W : World) (h : Has W) => measure_any nm cd v W hn hc h)
  have HH := hide (hh.below HB.out)
  clear hh
  unfold sgnC at HB HG HH ⊢
  unfold imgC at ME
  go_enter Tryz.func35, Tryz.ntmps35
  go_wp2_with (fail)
  refine (ME.out _ HH.out).mono ?_
  rintro e w1 ⟨rfl, hb1⟩
  have HB1 := hide (below_on HB.out hb1)
  have HG1 := hide (blk_below HG.out hb1)
  clear hb1 HB HG HH ME
  obtain ⟨r0, r1, r2, r3, r4⟩ := cells5 HG1.out
  by_cases hE : imgE nm v cd = 0
  · have HS := hide (sldE_ok (q := q) (p := p) (a := a) hE)
    rw [hE, errV_zero]
    clear hE
    have CK := hide (fun W => hold_any q (meaV nm v cd) p a W)
    unfold sealC at CK
    generalize rigC q (meaV nm v cd) p a = rc at *
    go_wp2_with (fail)
    refine (CK.out _).mono ?_
    rintro e w2 ⟨rfl, hb2⟩
    have HB2 := hide (below_on HB1.out hb2)
    clear hb2 HB1 HG1 CK r0 r1 r2 r3 r4
    go_wp2
    go_ret
    exact ⟨by rw [HS.out]; rfl, HB2.out⟩
  · have HS := hide (sldE_img (q := q) (p := p) (a := a) hE)
    have HX := hide (errV_ne (T := 63) hE)
    rw [errV_ne hE]
    clear hE
    go_wp2
    go_ret
    exact ⟨by rw [HS.out, HX.out]; rfl, HB1.out⟩

/-- Where the image and the seal lie that go into a signed image, where the answer will lie, and that all else is as it was. -/
def InvG (w0 : World) (P Q R : Nat) (nm : ByteArray) (v : Int) (cd : ByteArray) (p a : Int) (W : World) : Prop :=
  Below w0.heap.size w0 W ∧ (w0.heap.size ≤ R ∧ P ≠ R ∧ Q ≠ R) ∧ W.heap[P]? = some (.cells #[.string nm, .int .i64 v, .string cd] 77) ∧ W.heap[Q]? = some (.cells #[.int .i64 p, .int .i64 a] 48) ∧ ∃ x0 x1 x2 x3 x4, W.heap[R]? = some (.cells #[x0, x1, x2, x3, x4] 79)
section
variable {w0 W W' : World} {P Q R : Nat} {nm cd : ByteArray} {v p a : Int}
theorem invG_S (h : InvG w0 P Q R nm v cd p a W) : W.cell? ⟨P, 0, none⟩ = some (.string nm) ∧ W.cell? ⟨P, 1, none⟩ = some (.int .i64 v) ∧ W.cell? ⟨P, 2, none⟩ = some (.string cd) ∧ W.cell? ⟨Q, 0, none⟩ = some (.int .i64 p) ∧ W.cell? ⟨Q, 1, none⟩ = some (.int .i64 a)
    ∧ W.frozen? ⟨R, 0, none⟩ = false ∧ W.frozen? ⟨R, 1, none⟩ = false ∧ W.frozen? ⟨R, 2, none⟩ = false ∧ W.frozen? ⟨R, 3, none⟩ = false ∧ W.frozen? ⟨R, 4, none⟩ = false
    ∧ W.cell? ⟨R, 0, none⟩ = some (cellAt W R 0) ∧ W.cell? ⟨R, 1, none⟩ = some (cellAt W R 1) ∧ W.cell? ⟨R, 2, none⟩ = some (cellAt W R 2) ∧ W.cell? ⟨R, 3, none⟩ = some (cellAt W R 3) ∧ W.cell? ⟨R, 4, none⟩ = some (cellAt W R 4) ∧ InvG w0 P Q R nm v cd p a W := by
  have h' := h
  obtain ⟨h1, h2, h3, h5, x0, x1, x2, x3, x4, h4⟩ := h
  obtain ⟨c0, c1, c2⟩ := img_cells (nm := nm) (v := v) (cd := cd) h3
  obtain ⟨d0, d1⟩ := seal_cells h5
  obtain ⟨f0, f1, f2, f3, f4⟩ := free5 h4
  obtain ⟨e0, e1, e2, e3, e4⟩ := cells5 h4
  exact ⟨c0, c1, c2, d0, d1, f0, f1, f2, f3, f4, cellAt_of e0, cellAt_of e1, cellAt_of e2, cellAt_of e3, cellAt_of e4, h'⟩
theorem invG_drew (h : InvG w0 P Q R nm v cd p a W) : InvG w0 P Q R nm v cd p a W.drew := ⟨Below.drew h.1, h.2⟩
theorem invG_below (h : InvG w0 P Q R nm v cd p a W) (hb : Below W.heap.size W W') : InvG w0 P Q R nm v cd p a W' := by
  obtain ⟨h1, h2, h3, h5, x0, x1, x2, x3, x4, h4⟩ := h
  exact ⟨below_on h1 hb, h2, blk_below h3 hb, blk_below h5 hb, x0, x1, x2, x3, x4, blk_below h4 hb⟩
theorem invG_set (h : InvG w0 P Q R nm v cd p a W) (i : Nat) (u : Value) : InvG w0 P Q R nm v cd p a (W.setCell ⟨R, i, none⟩ u) := by
  obtain ⟨h1, h2, h3, h5, x0, x1, x2, x3, x4, h4⟩ := h
  rw [setCell_eq_setRow W R i _ _ _ u h4]
  refine ⟨below_setRow h1 h2.1 _, h2, by rw [setRow_other _ _ _ _ h2.2.1]; exact h3, by rw [setRow_other _ _ _ _ h2.2.2]; exact h5, ?_⟩
  have h6 := setRow_heap _ _ _ (#[x0, x1, x2, x3, x4].setIfInBounds i u) _ _ h4
  match i with
  | 0 => exact ⟨u, x1, x2, x3, x4, h6⟩
  | 1 => exact ⟨x0, u, x2, x3, x4, h6⟩
  | 2 => exact ⟨x0, x1, u, x3, x4, h6⟩
  | 3 => exact ⟨x0, x1, x2, u, x4, h6⟩
  | 4 => exact ⟨x0, x1, x2, x3, u, h6⟩
  | i + 5 => exact ⟨x0, x1, x2, x3, x4, h6⟩
theorem invG_put (h : InvG w0 P Q R nm v cd p a W) (y0 y1 y2 y3 y4 : Value) :
    (((((W.setCell ⟨R, 0, none⟩ y0).setCell ⟨R, 1, none⟩ y1).setCell ⟨R, 2, none⟩ y2).setCell ⟨R, 3, none⟩ y3).setCell ⟨R, 4, none⟩ y4).heap[R]? = some (.cells #[y0, y1, y2, y3, y4] 79) ∧ Below w0.heap.size w0 (((((W.setCell ⟨R, 0, none⟩ y0).setCell ⟨R, 1, none⟩ y1).setCell ⟨R, 2, none⟩ y2).setCell ⟨R, 3, none⟩ y3).setCell ⟨R, 4, none⟩ y4) := by
  obtain ⟨h1, h2, h3, h5, x0, x1, x2, x3, x4, h4⟩ := h
  rw [set5 h4]
  exact ⟨setRow_heap _ _ _ _ _ _ h4, below_setRow h1 h2.1 _⟩
end

set_option maxHeartbeats 4000000 in
theorem make_any (x k v : Int) (nm cd : ByteArray) (w : World) (hn : nm.size ≤ 140737488351232) (hc : cd.size ≤ 140737488351232) (hh : Has w) :
    Calls Tryz.prog 34 #[.int .i64 x, .int .i64 k, .agg (imgC nm v cd)] w fun e w' => e = .returned (.tuple #[.agg (mkS x k nm v cd), errV 63 (sgnE x k nm v cd)]) ∧ Below w.heap.size w w' := by
  have hbA := below_on (below_new w (.cells (imgC nm v cd) 77)) (below_new _ (.cells (sgnC { data := #[] } 0 { data := #[] } 0 0) 79))
  have HB := hide hbA
  have HI := hide (blk_keep (blk_new w (.cells (imgC nm v cd) 77)) (.cells (sgnC { data := #[] } 0 { data := #[] } 0 0) 79))
  have HG := hide (blk_two w (.cells (imgC nm v cd) 77) (.cells (sgnC { data := #[] } 0 { data := #[] } 0 0) 79))
  have ME := hide (fun (W : World) (h : Has W) => measure_any nm cd v W hn hc h)
  have CL := hide (fun (W : World) => clones_any nm cd v W hn hc)
  have HH := hide (hh.below hbA)
  clear hh hbA
  unfold imgC sgnC at HB HI HG HH
  unfold imgC at ME CL ⊢
  go_enter Tryz.func34, Tryz.ntmps34
  go_wp2_with (fail)
  refine (ME.out _ HH.out).mono ?_
  rintro e w1 ⟨rfl, hb1⟩
  have HB1 := hide (below_on HB.out hb1)
  have HI1 := hide (blk_below HI.out hb1)
  have HG1 := hide (blk_below HG.out hb1)
  clear hb1 HB HI HG HH ME
  by_cases hE : imgE nm v cd = 0
  · have SG := hide (fun W => sign_any x k (meaV nm v cd) W)
    have E := hide (sgnE_ok (x := x) (k := k) hE)
    have SC := hide (show sigC x k (meaV nm v cd) = 0 ∨ sigC x k (meaV nm v cd) = 1 by unfold sigC; split <;> simp)
    have V0 := hide (fun (h : sigC x k (meaV nm v cd) = 0) => mkS_ok (x := x) (k := k) (nm := nm) (v := v) (cd := cd) (E.out.trans h))
    have V1 := hide (fun (h : ¬ sigC x k (meaV nm v cd) = 0) => mkS_no (x := x) (k := k) (nm := nm) (v := v) (cd := cd) (fun e => h (E.out.symm.trans e)))
    rw [hE, errV_zero]
    clear hE
    unfold sealC at SG
    unfold sgnC at V0 V1
    generalize sigC x k (meaV nm v cd) = c at *
    generalize sigP x k (meaV nm v cd) = p at *
    generalize sigA x k (meaV nm v cd) = a at *
    go_wp2_with (fail)
    refine (SG.out _).mono ?_
    rintro e w2 ⟨rfl, hb2⟩
    have HB2 := hide (below_on HB1.out hb2)
    have HI2 := hide (blk_below HI1.out hb2)
    have HG2 := hide (blk_below HG1.out hb2)
    clear hb2 HB1 HI1 HG1 SG
    have hlt := blk_lt HG2.out
    have hli := blk_lt HI2.out
    rcases SC.out with rfl | rfl
    · have V := hide (V0.out rfl)
      clear V0 V1 SC
      rw [errV_zero]
      have hI : InvG w w.heap.size w2.heap.size (w.heap.size + 1) nm v cd p a (w2.alloc (.cells #[.int .i64 p, .int .i64 a] 48)) :=
        ⟨below_on HB2.out (below_new w2 _), ⟨by omega, by omega, by omega⟩, blk_keep HI2.out _, blk_new w2 _, _, _, _, _, _, blk_keep HG2.out _⟩
      obtain ⟨m0, m1, m2, s0, s1, f0, f1, f2, f3, f4, r0, r1, r2, r3, r4, _⟩ := invG_S hI
      clear HB2 HI2 HG2
      go_wp2_with (fail)
      go_region_held3 (fun W => W.cell? ⟨w.heap.size, 0, none⟩ = some (.string nm) ∧ W.cell? ⟨w.heap.size, 1, none⟩ = some (.int .i64 v) ∧ W.cell? ⟨w.heap.size, 2, none⟩ = some (.string cd) ∧ W.cell? ⟨w2.heap.size, 0, none⟩ = some (.int .i64 p) ∧ W.cell? ⟨w2.heap.size, 1, none⟩ = some (.int .i64 a)
        ∧ W.frozen? ⟨w.heap.size + 1, 0, none⟩ = false ∧ W.frozen? ⟨w.heap.size + 1, 1, none⟩ = false ∧ W.frozen? ⟨w.heap.size + 1, 2, none⟩ = false ∧ W.frozen? ⟨w.heap.size + 1, 3, none⟩ = false ∧ W.frozen? ⟨w.heap.size + 1, 4, none⟩ = false
        ∧ W.cell? ⟨w.heap.size + 1, 0, none⟩ = some (cellAt W (w.heap.size + 1) 0) ∧ W.cell? ⟨w.heap.size + 1, 1, none⟩ = some (cellAt W (w.heap.size + 1) 1) ∧ W.cell? ⟨w.heap.size + 1, 2, none⟩ = some (cellAt W (w.heap.size + 1) 2) ∧ W.cell? ⟨w.heap.size + 1, 3, none⟩ = some (cellAt W (w.heap.size + 1) 3) ∧ W.cell? ⟨w.heap.size + 1, 4, none⟩ = some (cellAt W (w.heap.size + 1) 4) ∧ InvG w w.heap.size w2.heap.size (w.heap.size + 1) nm v cd p a W)
        (exact invG_S (by repeat (first | assumption | apply invG_drew | apply invG_set)))
        (first | (go_at_call 57; refine (CL.out _).mono ?_; rintro e w5 ⟨rfl, hb5⟩; have hI5 : InvG w w.heap.size w2.heap.size (w.heap.size + 1) nm v cd p a w5 := invG_below (by repeat (first | assumption | apply invG_drew | apply invG_set)) hb5; clear hb5; obtain ⟨m50, m51, m52, s50, s51, f50, f51, f52, f53, f54, r50, r51, r52, r53, r54, _⟩ := invG_S hI5))
      all_goals
        go_wp2
        refine bodyPost_ret (v := .tuple #[.agg #[.string nm, .int .i64 v, .string cd, .int .i64 p, .int .i64 a], .nilIface]) ?_ rfl ⟨?_, ?_⟩
        · exact results_signed (p := 6) (u := 7) rfl _ _ (w.heap.size + 1) _ _ rfl rfl (invG_put (by repeat (first | assumption | apply invG_drew | apply invG_set)) _ _ _ _ _).1 rfl
        · rw [V.out, E.out]; rfl
        · exact (invG_put (by repeat (first | assumption | apply invG_drew | apply invG_set)) _ _ _ _ _).2
    · have V := hide (V1.out (by decide))
      clear V0 V1 SC
      obtain ⟨r0, r1, r2, r3, r4⟩ := cells5 HG2.out
      obtain ⟨g0, g1, g2, g3, g4⟩ := free5 HG2.out
      rw [errV_one]
      go_wp2
      rw [set5 HG2.out]
      refine bodyPost_ret (v := .tuple #[.agg #[.string { data := #[] }, .int .i64 0, .string { data := #[] }, .int .i64 0, .int .i64 0], .iface 63 (.int .i64 1)]) ?_ rfl ⟨?_, ?_⟩
      · exact results_signed (p := 6) (u := 7) rfl _ _ (w.heap.size + 1) _ _ rfl rfl (blk_keep (setRow_heap _ _ _ _ _ _ HG2.out) _) rfl
      · rw [V.out, E.out]; rfl
      · exact below_on (below_setRow HB2.out (by omega) _) (below_new _ _)
  · have E := hide (sgnE_img (x := x) (k := k) hE)
    have V := hide (mkS_no (x := x) (k := k) (nm := nm) (v := v) (cd := cd) (fun e => hE (E.out.symm.trans e)))
    have HX := hide (errV_ne (T := 63) hE)
    unfold sgnC at V
    rw [errV_ne hE]
    obtain ⟨r0, r1, r2, r3, r4⟩ := cells5 HG1.out
    obtain ⟨g0, g1, g2, g3, g4⟩ := free5 HG1.out
    clear hE
    go_wp2
    rw [set5 HG1.out]
    refine bodyPost_ret (v := .tuple #[.agg #[.string { data := #[] }, .int .i64 0, .string { data := #[] }, .int .i64 0, .int .i64 0], .iface 63 (.int .i64 (imgE nm v cd))]) ?_ rfl ⟨?_, ?_⟩
    · exact results_signed (p := 6) (u := 7) rfl _ _ (w.heap.size + 1) _ _ rfl rfl (setRow_heap _ _ _ _ _ _ HG1.out) rfl
    · rw [V.out, E.out, HX.out]
    · exact below_setRow HB1.out (by omega) _
end Go.Proofs.YtgnpffkfbacejaaGreatDoor.Sign
namespace Go.Proofs.YtgnpffkfbacejaaGreatDoor.M
set_option linter.unusedVariables false

/-- A signed image. -/
structure Sg where
  nm : ByteArray
  v : Int
  cd : ByteArray
  p : Int
  a : Int
/-- A slot. -/
structure Sl where
  s : Sg
  full : Bool
  tries : Int
  good : Bool
/-- Two slots, and which runs. -/
structure St where
  x : Sl
  y : Sl
  r : Bool
def noSg : Sg := ⟨{ data := #[] }, 0, { data := #[] }, 0, 0⟩
def noSl : Sl := ⟨noSg, false, 0, false⟩
def sgV (s : Sg) : List Value := [.string s.nm, .int .i64 s.v, .string s.cd, .int .i64 s.p, .int .i64 s.a]
def slV (l : Sl) : List Value := sgV l.s ++ [.bool l.full, .int .i64 l.tries, .bool l.good]
def St.at (t : St) (i : Bool) : Sl := match i with | false => t.x | true => t.y
def St.put (t : St) (i : Bool) (l : Sl) : St := match i with | false => { t with x := l } | true => { t with y := l }
def idx (i : Bool) : Int := match i with | false => 0 | true => 1
def newT (s : Sg) : St := ⟨⟨s, true, 0, true⟩, noSl, false⟩
def safeT (t : St) : Bool := if (t.at t.r).good = true then t.r else !t.r
def pickT (t : St) : Bool := if (t.at (!safeT t)).full = true ∧ (t.at (!safeT t)).good = false ∧ 0 < (t.at (!safeT t)).tries then !safeT t else safeT t
def sgE (s : Sg) : Int := imgE s.nm s.v s.cd
def putE (t : St) (s : Sg) : Int := if sgE s = 0 then (if (t.at t.r).good = true then 0 else 6) else sgE s
def putT (t : St) (s : Sg) : St := if putE t s = 0 then t.put (!t.r) ⟨s, true, 3, false⟩ else t
def runT (t : St) (i : Bool) : St := { t with r := i }
def lessL (l : Sl) : Sl := if l.good = true then l else { l with tries := l.tries - 1 }
def startT (t : St) : St := (runT t (pickT t)).put (pickT t) (lessL (t.at (pickT t)))
def goodE (t : St) : Int := if (t.at t.r).good = true then 7 else 0
def goodT (t : St) : St := if (t.at t.r).good = true then t else (t.put t.r { (t.at t.r) with good := true, tries := 0 }).put (!t.r) noSl
/-- Just one is good, and it is full, as is the one that runs; no more tries than three. -/
structure OkT (t : St) : Prop where
  one : (t.at (!safeT t)).good = false
  good : (t.at (safeT t)).good = true
  full : (t.at (safeT t)).full = true
  run : (t.at t.r).full = true
  x : 0 ≤ t.x.tries ∧ t.x.tries ≤ 3
  y : 0 ≤ t.y.tries ∧ t.y.tries ≤ 3
theorem ok_new (s : Sg) : OkT (newT s) := ⟨rfl, rfl, rfl, rfl, by simp [newT], by simp [newT, noSl]⟩
theorem ok_put {t : St} (h : OkT t) (s : Sg) : OkT (putT t s) := by
  unfold putT
  by_cases he : putE t s = 0
  · rw [if_pos he]
    have hg : (t.at t.r).good = true := by
      unfold putE at he
      by_cases h1 : sgE s = 0
      · rw [if_pos h1] at he
        by_cases h2 : (t.at t.r).good = true
        · exact h2
        · rw [if_neg h2] at he; cases he
      · rw [if_neg h1] at he; exact absurd he h1
    obtain ⟨h1, h2, h3, h6, h4, h5⟩ := h
    obtain ⟨x, y, r⟩ := t
    cases r
    · simp [St.at] at hg h6
      refine ⟨?_, ?_, ?_, ?_, h4, ?_⟩ <;> simp [safeT, St.at, St.put, hg, h6]
    · simp [St.at] at hg h6
      refine ⟨?_, ?_, ?_, ?_, ?_, h5⟩ <;> simp [safeT, St.at, St.put, hg, h6]
  · rw [if_neg he]; exact h
theorem ok_start {t : St} (h : OkT t) : OkT (startT t) := by
  obtain ⟨h1, h2, h3, h6, h4, h5⟩ := h
  obtain ⟨x, y, r⟩ := t
  unfold startT
  by_cases hp : ((⟨x, y, r⟩ : St).at (!safeT ⟨x, y, r⟩)).full = true ∧ ((⟨x, y, r⟩ : St).at (!safeT ⟨x, y, r⟩)).good = false ∧ 0 < ((⟨x, y, r⟩ : St).at (!safeT ⟨x, y, r⟩)).tries
  · have e : pickT ⟨x, y, r⟩ = !safeT ⟨x, y, r⟩ := by unfold pickT; rw [if_pos hp]
    rw [e]
    generalize safeT ⟨x, y, r⟩ = q at *
    cases q
    · simp [St.at] at h1 h2 h3 hp h4 h5
      refine ⟨?_, ?_, ?_, ?_, ?_, ?_⟩ <;> simp [safeT, St.at, St.put, runT, lessL, h1, h2, h3, h4, hp] <;> omega
    · simp [St.at] at h1 h2 h3 hp h4 h5
      refine ⟨?_, ?_, ?_, ?_, ?_, ?_⟩ <;> simp [safeT, St.at, St.put, runT, lessL, h1, h2, h3, h5, hp] <;> omega
  · have e : pickT ⟨x, y, r⟩ = safeT ⟨x, y, r⟩ := by unfold pickT; rw [if_neg hp]
    rw [e]
    generalize safeT ⟨x, y, r⟩ = q at *
    cases q
    · simp [St.at] at h1 h2 h3 h4 h5
      refine ⟨?_, ?_, ?_, ?_, ?_, ?_⟩ <;> simp [safeT, St.at, St.put, runT, lessL, h1, h2, h3, h4, h5]
    · simp [St.at] at h1 h2 h3 h4 h5
      refine ⟨?_, ?_, ?_, ?_, ?_, ?_⟩ <;> simp [safeT, St.at, St.put, runT, lessL, h1, h2, h3, h4, h5]
theorem ok_good {t : St} (h : OkT t) : OkT (goodT t) := by
  unfold goodT
  by_cases hg : (t.at t.r).good = true
  · rw [if_pos hg]; exact h
  · rw [if_neg hg]
    obtain ⟨h1, h2, h3, h6, h4, h5⟩ := h
    obtain ⟨x, y, r⟩ := t
    cases r
    · simp [St.at] at h6
      refine ⟨?_, ?_, ?_, ?_, ?_, ?_⟩ <;> simp [safeT, St.at, St.put, noSl, h6]
    · simp [St.at] at h6
      refine ⟨?_, ?_, ?_, ?_, ?_, ?_⟩ <;> simp [safeT, St.at, St.put, noSl, h6]
/-- How many tries are left in the slot that is not good. -/
def leftT (t : St) : Int := if (t.at (!safeT t)).full = true then (t.at (!safeT t)).tries else 0
end Go.Proofs.YtgnpffkfbacejaaGreatDoor.M
namespace Go.Proofs.YtgnpffkfbacejaaGreatDoor.M
set_option linter.unusedVariables false

/-- An event in its cells: a register and a measure. -/
def evV (e : Int × Int) : List Value := [.int .i64 e.1, .int .i64 e.2]
theorem evV_len (e : Int × Int) : (evV e).length = 2 := rfl
def evOk (e : Int × Int) : Bool := isReg e.1 && isM e.2
def evE (l : List (Int × Int)) : Int := if 30 < l.length then 4 else if l.all evOk = true then 0 else 1
def putR (xs : List Int) (e : Int × Int) : List Int := xs.set e.1.toNat (stp 7919 (xs.getD e.1.toNat 0) e.2)
def repV (l : List (Int × Int)) : List Int := l.foldl putR noBank
theorem evE_full {l : List (Int × Int)} (h : 30 < l.length) : evE l = 4 := if_pos h
theorem evE_ok {l : List (Int × Int)} (h : ¬ 30 < l.length) (ho : l.all evOk = true) : evE l = 0 := by unfold evE; rw [if_neg h, if_pos ho]
theorem evE_bad {l : List (Int × Int)} (h : ¬ 30 < l.length) (ho : l.all evOk = false) : evE l = 1 := by unfold evE; rw [if_neg h, ho]; rfl
theorem evE_zero {l : List (Int × Int)} (h : evE l = 0) : ¬ 30 < l.length ∧ l.all evOk = true := by
  by_cases h1 : 30 < l.length
  · rw [evE_full h1] at h; cases h
  · cases h2 : l.all evOk with
    | true => exact ⟨h1, rfl⟩
    | false => rw [evE_bad h1 h2] at h; cases h
theorem evOk_iff {e : Int × Int} : evOk e = true ↔ isReg e.1 = true ∧ isM e.2 = true := by unfold evOk; rw [Bool.and_eq_true]
theorem putR_len (xs : List Int) (e : Int × Int) : (putR xs e).length = xs.length := by unfold putR; rw [List.length_set]
theorem fold_len : ∀ (l : List (Int × Int)) (xs : List Int), (l.foldl putR xs).length = xs.length
  | [], xs => rfl
  | e :: r, xs => by rw [List.foldl_cons, fold_len r, putR_len]
theorem repV_len (l : List (Int × Int)) : (repV l).length = 8 := fold_len l noBank
theorem repV_nil : repV [] = noBank := rfl
theorem repV_snoc (l : List (Int × Int)) (e : Int × Int) : repV (l ++ [e]) = putR (repV l) e := by unfold repV; rw [List.foldl_append]; rfl
theorem repV_take {l : List (Int × Int)} {k : Nat} {e : Int × Int} (h : l[k]? = some e) : repV (l.take (k + 1)) = putR (repV (l.take k)) e := by rw [take_one h, repV_snoc]
theorem putR_ok {xs : List Int} (h : okAll xs = true) (e : Int × Int) : okAll (putR xs e) = true := by
  refine okAll_of fun k x hx => ?_
  unfold putR at hx
  rw [List.getElem?_set] at hx
  split at hx
  · split at hx
    · cases hx
      exact isM_iff.2 ⟨stp_ge _ _ _, stp_lt _ _ _⟩
    · cases hx
  · exact okAll_at h hx
theorem fold_ok : ∀ (l : List (Int × Int)) (xs : List Int), okAll xs = true → okAll (l.foldl putR xs) = true
  | [], xs, h => h
  | e :: r, xs, h => by rw [List.foldl_cons]; exact fold_ok r _ (putR_ok h e)
theorem repV_ok (l : List (Int × Int)) : okAll (repV l) = true := fold_ok l noBank rfl
/-- One more goes on from where they were: it is the bank extended. -/
theorem rep_ext {l : List (Int × Int)} {e : Int × Int} (h : evOk e = true) : extE (repV l) e.1 e.2 = 0 ∧ extV (repV l) e.1 e.2 = repV (l ++ [e]) := by
  have ho : extOk (repV l) e.1 e.2 = true := extOk_iff.2 ⟨repV_ok l, (evOk_iff.1 h).1, (evOk_iff.1 h).2⟩
  exact ⟨extE_ok ho, by rw [extV_ok ho, repV_snoc]; rfl⟩
/-- Two events of two registers may change places. -/
theorem putR_comm {xs : List Int} {a b : Int × Int} (h : a.1.toNat ≠ b.1.toNat) : putR (putR xs a) b = putR (putR xs b) a := by
  unfold putR
  rw [List.set_comm _ _ h, List.getD_eq_getElem?_getD, List.getD_eq_getElem?_getD, List.getElem?_set_ne h, List.getD_eq_getElem?_getD, List.getD_eq_getElem?_getD, List.getElem?_set_ne (Ne.symm h)]
theorem fold_comm {xs : List Int} {a b : Int × Int} (h : a.1.toNat ≠ b.1.toNat) (l r : List (Int × Int)) : (l ++ a :: b :: r).foldl putR xs = (l ++ b :: a :: r).foldl putR xs := by
  rw [List.foldl_append, List.foldl_append, List.foldl_cons, List.foldl_cons, List.foldl_cons, List.foldl_cons, putR_comm h]
end Go.Proofs.YtgnpffkfbacejaaGreatDoor.M
namespace Go.Proofs.YtgnpffkfbacejaaGreatDoor.Any
open Go.ChangeShapes Go.WideShapes Go.ChangeAt Go.RowKit
open Go.Proofs.YtgnpffkfbacejaaGreatDoor.M
set_option linter.unusedVariables false

/-- What is asked of a function value: at each number of the list, in whatever world that holds what w holds, it tells p, and leaves such a world. -/
def Tells (g : Nat) (lb : Array Value) (p : Int → Bool) (xs : List Int) (w : World) : Prop :=
  ∀ (W : World) (x : Int), x ∈ xs → Below w.heap.size w W → Calls Tryz.prog g (#[.int .i64 x] ++ lb) W fun e w' => e = .returned (.bool (p x)) ∧ Below w.heap.size w w'

set_option maxHeartbeats 2000000 in
theorem index_any (a : Option Addr) (xs : List Int) (n cap : Nat) (g : Nat) (lb : Array Value) (p : Int → Bool) (w : World) (hn : n = xs.length) (hl : n ≤ 1000000) (hr : Row w a xs)
    (eg : ∀ args w, (callFunc g args).run Tryz.prog w = .ok (.enter g args) w) (hp : Tells g lb p xs w) :
    Calls Tryz.prog 110 #[.slice a n cap, .func (.func g) #[] lb] w fun e w' => (∃ r : Int, e = .returned (.int .i64 r) ∧ decide (0 ≤ r) = xs.any p) ∧ Below w.heap.size w w' := by
  have HL : Hid (∀ k, k < n → ∃ x, xs[k]? = some x) := fun k hk => ⟨xs[k]'(by omega), List.getElem?_eq_getElem (by omega)⟩
  have HN := hide hn
  have HR := hide hr
  have HP := hide hp
  clear hn hr hp
  go_enter Tryz.func110, Tryz.ntmps110
  go_wp2
  go_loopw [5, 8] (fun _ i wr => ∃ k : Nat, k ≤ n ∧ i = .int .i64 k ∧ Hid (Below w.heap.size w wr) ∧ Hid (∀ (j : Nat) (x : Int), j < k → xs[j]? = some x → p x = false)) (fun _ i _ => n - (intOf i).toNat)
  case atStart => exact ⟨0, by omega, rfl, Below.refl _ _, fun j x h => by omega⟩
  case round =>
    obtain ⟨k, hk, rfl, HB, HA⟩ := hrel
    by_cases hlt : k < n
    · obtain ⟨x, hx⟩ := HL.out k hlt
      have HX := hide hx
      clear hx
      have hrow : ∃ b off, a = some ⟨b, off, none⟩ ∧ wr.cell? ⟨b, off + k, none⟩ = some (.int .i64 x) := by
        rcases HR.out.below HB.out with h | ⟨b, off, h1, h2⟩
        · have := HX.out; rw [h] at this; simp at this
        · exact ⟨b, off, h1, h2 k x HX.out⟩
      obtain ⟨b, off, rfl, hc⟩ := hrow
      have hcall := HP.out wr x (List.mem_of_getElem? HX.out) HB.out
      cases hq : p x with
      | true =>
        rw [hq] at hcall
        go_wp2_with (go_at_fn g; refine hcall.mono ?_; rintro e w' ⟨rfl, hb'⟩)
        go_ret
        refine ⟨⟨k, rfl, ?_⟩, hb'⟩
        rw [List.any_eq_true.2 ⟨x, List.mem_of_getElem? HX.out, hq⟩]
        simp
      | false =>
        rw [hq] at hcall
        go_wp2_with (go_at_fn g; refine hcall.mono ?_; rintro e w' ⟨rfl, hb'⟩)
        go_roundw
        case rel => exact ⟨k + 1, by omega, by go_num, hb', fun j y hj hy => by
          by_cases e : j = k
          · subst e; rw [HX.out] at hy; cases hy; exact hq
          · exact HA.out j y (by omega) hy⟩
        case measure => simp [intOf]; omega
    · go_wp2
      go_ret
      refine ⟨⟨-1, rfl, ?_⟩, HB.out⟩
      have h0 : xs.any p = false := by
        rw [List.any_eq_false]
        intro x hx
        obtain ⟨j, hj, e⟩ := List.mem_iff_getElem.1 hx
        rw [HA.out j x (by have := HN.out; omega) (by rw [List.getElem?_eq_getElem hj, e])]
        simp
      rw [h0]
      rfl

theorem contains_any (a : Option Addr) (xs : List Int) (n cap : Nat) (g : Nat) (lb : Array Value) (p : Int → Bool) (w : World) (hn : n = xs.length) (hl : n ≤ 1000000) (hr : Row w a xs)
    (eg : ∀ args w, (callFunc g args).run Tryz.prog w = .ok (.enter g args) w) (hp : Tells g lb p xs w) :
    Calls Tryz.prog 84 #[.slice a n cap, .func (.func g) #[] lb] w fun e w' => e = .returned (.bool (xs.any p)) ∧ Below w.heap.size w w' := by
  have C := hide (index_any a xs n cap g lb p w hn hl hr eg hp)
  clear hn hr hp
  go_enter Tryz.func84, Tryz.ntmps84
  go_wp2_with (fail)
  refine C.out.mono ?_
  rintro e w' ⟨⟨r, rfl, hr⟩, hb⟩
  have HR := hide hr
  clear hr
  go_wp2
  go_ret
  exact ⟨by rw [← HR.out]; rfl, hb⟩
end Go.Proofs.YtgnpffkfbacejaaGreatDoor.Any
namespace Go.Proofs.YtgnpffkfbacejaaGreatDoor.Bank
open Go.ChangeShapes Go.WideShapes Go.ChangeAt Go.RowKit
open Go.Proofs.YtgnpffkfbacejaaGreatDoor.M Go.Proofs.YtgnpffkfbacejaaGreatDoor.Measure
set_option linter.unusedVariables false

theorem bad_any (xs : List Int) (w : World) : Any.Tells 85 #[] (fun x => !isM x) xs w := by
  intro W x _ hb
  show Calls Tryz.prog 85 #[.int .i64 x] W _
  go_enter Tryz.func85, Tryz.ntmps85
  go_wp2_with (go_at_call 64; refine (is_any _ _).mono ?_; rintro e w' ⟨rfl, rfl⟩)
  go_ret
  exact ⟨by cases isM x <;> rfl, hb⟩

set_option maxHeartbeats 1000000 in
theorem check_any (xs : List Int) (c : Array Value) (w : World) (hc : c = bankC xs) (hl : xs.length = 8) :
    Calls Tryz.prog 59 #[.agg c] w fun e w' => e = .returned (errV 63 (bankE xs)) ∧ Below w.heap.size w w' := by
  have HC := hide hc
  have HL := hide hl
  have e11 : ∀ args w, (callFunc 85 args).run Tryz.prog w = .ok (.enter 85 args) w := enters_of Tryz.func85 (by kernel_rfl) rfl
  clear hc hl
  go_enter Tryz.func59, Tryz.ntmps59
  go_wp2_with (fail)
  refine (Any.contains_any _ xs 8 8 _ #[] _ _ (HL.out).symm (by omega) (bank_row (t := 54) (fr := (0, 0)) (by rw [← HC.out]; exact heap_alloc_new w _)) e11 (bad_any xs _)).mono ?_
  rintro e w1 ⟨rfl, hb⟩
  have HB := hide (((Below.refl _ w).alloc (Nat.le_refl _) (.cells c 54)).trans (hb.mono (by simp)))
  clear hb
  rw [any_bad]
  cases ho : okAll xs with
  | true =>
    have E := hide (bankE_ok ho)
    go_wp2
    go_ret
    exact ⟨by rw [E.out]; rfl, HB.out⟩
  | false =>
    have E := hide (bankE_bad ho)
    go_wp2
    go_ret
    exact ⟨by rw [E.out]; rfl, HB.out⟩

theorem isMask_any (n : Int) (w : World) :
    Calls Tryz.prog 60 #[.int .i64 n] w fun e w' => e = .returned (.bool (isMask n)) ∧ w' = w := by
  by_cases h0 : 0 ≤ n
  · by_cases h1 : n ≤ 255
    · rw [isMask_iff.2 ⟨h0, h1⟩]
      go_enter Tryz.func60, Tryz.ntmps60
      go_wp2
      go_ret
      exact ⟨rfl, rfl⟩
    · rw [isMask_false.2 (by omega)]
      go_enter Tryz.func60, Tryz.ntmps60
      go_wp2
      go_ret
      exact ⟨rfl, rfl⟩
  · rw [isMask_false.2 (by omega)]
    go_enter Tryz.func60, Tryz.ntmps60
    go_wp2
    go_ret
    exact ⟨rfl, rfl⟩

theorem isRegister_any (n : Int) (w : World) :
    Calls Tryz.prog 88 #[.int .i64 n] w fun e w' => e = .returned (.bool (isReg n)) ∧ w' = w := by
  by_cases h0 : 0 ≤ n
  · by_cases h1 : n < 8
    · rw [isReg_iff.2 ⟨h0, h1⟩]
      go_enter Tryz.func88, Tryz.ntmps88
      go_wp2
      go_ret
      exact ⟨rfl, rfl⟩
    · rw [isReg_false.2 (by omega)]
      go_enter Tryz.func88, Tryz.ntmps88
      go_wp2
      go_ret
      exact ⟨rfl, rfl⟩
  · rw [isReg_false.2 (by omega)]
    go_enter Tryz.func88, Tryz.ntmps88
    go_wp2
    go_ret
    exact ⟨rfl, rfl⟩

theorem info_int : (Tryz.prog.info? 3).map (fun i => (i.zero, i.size, i.bytes)) = some (some (.int .i64 0), 1, 8) := by kernel_rfl

set_option maxHeartbeats 2000000 in
theorem asked_any (m : Int) (w : World) (hm0 : 0 ≤ m) (hm1 : m ≤ 255) :
    Calls Tryz.prog 61 #[.int .i64 m] w fun e w' => ∃ v, e = .returned v ∧ Own w' w.heap.size 3 v (askedL m 8) ∧ Below w.heap.size w w' := by
  go_enter Tryz.func61, Tryz.ntmps61
  go_wp2
  go_loopw [2, 3, 4] (fun v _ i wr => ∃ k : Nat, k ≤ 8 ∧ i = .int .i64 k ∧ Hid (Own wr w.heap.size 3 v (askedL m k)) ∧ Hid (Below w.heap.size w wr)) (fun _ _ i _ => 8 - (intOf i).toNat)
  case atStart => exact ⟨0, by omega, rfl, Own.nil _ _ _, Below.refl _ _⟩
  case round =>
    obtain ⟨k, hk, rfl, HO, HB⟩ := hrel
    by_cases hlt : k < 8
    · have hsz := HB.out.size
      cases hbit : bit m k with
      | true =>
        have hand := bit_yes hbit
        go_wp2_with (at_builtin; refine wpList_app rfl _ _ 23 rfl w.heap.size 3 info_int Tryz.underlying23 _ (askedL m k) rfl (HO.out.alloc _) (some ⟨wr.heap.size, 0, none⟩) 1 1 [(k : Int)] rfl rfl (fun h => by cases h) (Row.one _ _ _ (by simp)) (by have := askedL_len m k; simp; omega) (by simp; omega) ?_; intro v' w1 ho hgr)
        go_roundw
        case rel => exact ⟨k + 1, by omega, by go_num, by rw [askedL_hit hbit]; exact ho, (HB.out.alloc hsz _).grown hgr (by simp; omega) (fun k hk => HO.out.block k hk)⟩
        case measure => simp [intOf]; omega
      | false =>
        have hand := bit_no hbit
        go_wp2
        go_roundw
        case rel => exact ⟨k + 1, by omega, by go_num, by rw [askedL_miss hbit]; exact HO, HB⟩
        case measure => simp [intOf]; omega
    · go_wp2
      go_ret
      have : k = 8 := by omega
      subst this
      exact ⟨_, rfl, HO.out, HB.out⟩
end Go.Proofs.YtgnpffkfbacejaaGreatDoor.Bank
namespace Go.Proofs.YtgnpffkfbacejaaGreatDoor.Bank
open Go.ChangeShapes Go.WideShapes Go.ChangeAt Go.RowKit
open Go.Proofs.YtgnpffkfbacejaaGreatDoor.M Go.Proofs.YtgnpffkfbacejaaGreatDoor.Measure
set_option linter.unusedVariables false

theorem info_bank : (Tryz.prog.info? 54).map (·.size) = some 8 := by kernel_rfl
/-- A bank out of its block. -/
theorem load_bank {w : World} {b : Nat} {c : Array Value} {fr : Nat × Nat} (h : w.heap[b]? = some (.cells c 54 fr)) (hs : c.size = 8) : (loadVar 54 ⟨b, 0, none⟩).run Tryz.prog w = .ok (.agg c) w :=
  run_loadVar_row w b _ _ c fr _ h Tryz.underlying54 rfl (by rw [info_bank, hs])

/-- The walk's step there: the whole bank out of the block that a slot points to. -/
theorem wpl_load {w : World} {ops : Array Oper} {rest : List Oper} {o : Oper} {a : Act} {Q : Exit → Act → World → Prop} (p : Nat) (hw : Region.wanted o (yielded ops a.tmps) = true) (ho : o.op = .load 54 (.tmp p)) (b : Nat)
    (hx : a.eval (.tmp p) = .pointer (some ⟨b, 0, none⟩)) (c : Array Value) (fr : Nat × Nat) (hg : w.heap[b]? = some (.cells c 54 fr)) (hs : c.size = 8) (h : wpList Tryz.prog ops Q rest (a.put o.dst (.agg c)) w) : wpList Tryz.prog ops Q (o :: rest) a w :=
  wpList_step fun K hK => by
    simp only [hw, if_true]
    exact wp_load_row _ (.tmp p) ho b hx _ c fr _ hg Tryz.underlying54 rfl (by rw [info_bank, hs]) (hK _ _ h)
theorem heap_below {w w' : World} {B b : Nat} {o : Obj} (h : w.heap[b]? = some o) (hb : Below B w w') (hlt : b < B) : w'.heap[b]? = some o := (hb.block b hlt).trans h

set_option maxHeartbeats 2000000 in
theorem digest_any (xs : List Int) (c : Array Value) (m : Int) (w : World) (hc : c = bankC xs) (hl : xs.length = 8) :
    Calls Tryz.prog 36 #[.agg c, .int .i64 m] w fun e w' => e = .returned (.tuple #[.int .i64 (digV xs m), errV 63 (digE xs m)]) ∧ Below w.heap.size w w' := by
  have HC := hide hc
  have HL := hide hl
  have HS := hide (show c.size = 8 by rw [hc, bankC_size, hl])
  have HG := hide (heap_alloc_new w (.cells c 54))
  clear hc hl
  go_enter Tryz.func36, Tryz.ntmps36
  go_wp2_with ((with_reducible refine wpl_load 2 ?_ ?_ _ ?_ _ _ HG.out HS.out ?_); rfl; rfl; rfl)
  refine (check_any xs c _ HC.out HL.out).mono ?_
  rintro e w1 ⟨rfl, hb1⟩
  have HB1 := hide (((Below.refl _ w).alloc (Nat.le_refl _) (.cells c 54)).trans (hb1.mono (by simp)))
  have HG1 := hide (heap_below HG.out hb1 (by simp))
  clear hb1 HG
  cases ho : okAll xs with
  | false =>
    have E := hide (digE_bad (xs := xs) (m := m) (fun h => by rw [ho] at h; exact Bool.false_ne_true h.1))
    have E' := hide (digV_bad (xs := xs) (m := m) (fun h => by rw [ho] at h; exact Bool.false_ne_true h.1))
    rw [bankE_bad ho, errV_one]
    go_wp2
    go_ret2
    exact ⟨by rw [E.out, E'.out]; rfl, HB1.out⟩
  | true =>
    have HO := hide ho
    rw [bankE_ok ho, errV_zero]
    clear ho
    go_wp2_with (fail)
    refine (isMask_any m _).mono ?_
    rintro e w2 ⟨rfl, rfl⟩
    cases hm : isMask m with
    | false =>
      have E := hide (digE_bad (xs := xs) (m := m) (fun h => by rw [hm] at h; exact Bool.false_ne_true h.2))
      have E' := hide (digV_bad (xs := xs) (m := m) (fun h => by rw [hm] at h; exact Bool.false_ne_true h.2))
      go_wp2
      go_ret2
      exact ⟨by rw [E.out, E'.out]; rfl, HB1.out⟩
    | true =>
      have E := hide (digE_ok HO.out hm)
      have E' := hide (digV_ok HO.out hm)
      have hm01 := isMask_iff.1 hm
      obtain ⟨hm0, hm1⟩ := hm01
      go_wp2_with (fail)
      refine (asked_any m _ hm0 hm1).mono ?_
      rintro e w3 ⟨v, rfl, hown, hb3⟩
      obtain ⟨a, cap, rfl, _, hrow⟩ := hown.row
      have HROW := hide hrow
      have HB3 := hide (HB1.out.trans (hb3.mono HB1.out.size))
      have HG3 := hide (heap_below HG1.out hb3 (heap_lt HG1.out))
      have HLEN := hide (askedL_len m 8)
      clear hrow hown hb3
      go_wp2
      go_loopw [7, 9, 22] (fun v _ i wr => ∃ k : Nat, k ≤ (askedL m 8).length ∧ i = .int .i64 k ∧ Hid (Own wr w3.heap.size 3 v (pick xs ((askedL m 8).take k))) ∧ Hid (Below w3.heap.size w3 wr)) (fun _ _ i _ => (askedL m 8).length - (intOf i).toNat)
      case atStart => exact ⟨0, by omega, rfl, Own.nil _ _ _, Below.refl _ _⟩
      case round =>
        obtain ⟨k, hk, rfl, HOW, HBR⟩ := hrel
        have hsz := HBR.out.size
        by_cases hlt : k < (askedL m 8).length
        · obtain ⟨i, hi⟩ : ∃ i, (askedL m 8)[k]? = some i := ⟨_, List.getElem?_eq_getElem hlt⟩
          obtain ⟨j, hj, rfl, _⟩ := askedL_mem (List.mem_of_getElem? hi)
          obtain ⟨y, hy⟩ : ∃ y, xs[j]? = some y := ⟨_, List.getElem?_eq_getElem (by have := HL.out; omega)⟩
          have HX := hide hi
          have HY := hide hy
          have HGR := hide (heap_below HG3.out HBR.out (heap_lt HG3.out))
          have hcb : wr.cell? ⟨w.heap.size, j, none⟩ = some (.int .i64 y) := bank_cell (xs := xs) (t := 54) (fr := (0, 0)) (by rw [← HC.out]; exact HGR.out) HY.out
          have hrow : ∃ b off, a = some ⟨b, off, none⟩ ∧ wr.cell? ⟨b, off + k, none⟩ = some (.int .i64 j) := by
            rcases HROW.out.below HBR.out with h | ⟨b, off, h1, h2⟩
            · have := HX.out; rw [h] at this; simp at this
            · exact ⟨b, off, h1, h2 k j HX.out⟩
          obtain ⟨b, off, rfl, hc⟩ := hrow
          clear hi hy
          have hlen : (askedL m 8).length ≤ 8 := HLEN.out
          go_wp2_with (at_builtin; refine wpList_app rfl _ _ 23 rfl w3.heap.size 3 info_int Tryz.underlying23 _ (pick xs ((askedL m 8).take k)) rfl (HOW.out.alloc _) (some ⟨wr.heap.size, 0, none⟩) 1 1 [y] rfl rfl (fun h => by cases h) (Row.one _ _ _ (by simp)) (by rw [pick_len]; simp; omega) (by simp; omega) ?_; intro v' w5 ho hgr)
          go_roundw
          case rel => exact ⟨k + 1, by omega, by go_num, by rw [pick_take HX.out (by simpa using HY.out)]; exact ho, (HBR.out.alloc hsz _).grown hgr (by simp; omega) (fun k hk => HOW.out.block k hk)⟩
          case measure => simp [intOf]; omega
        · have htk : (askedL m 8).take k = askedL m 8 := List.take_of_length_le (by omega)
          obtain ⟨a7, cap7, rfl, _, hrow7⟩ := HOW.out.row
          rw [htk] at hrow7 ⊢
          have HR7 := hide hrow7
          have HB7 := hide (HB3.out.trans (HBR.out.mono HB3.out.size))
          clear hrow7 htk
          go_wp2_with (fail)
          refine (all_ok _ (pick xs (askedL m 8)) _ _ _ rfl (by rw [pick_len]; have := HLEN.out; omega) HR7.out (pick_ok HO.out HL.out m)).mono ?_
          rintro e w8 ⟨rfl, rfl⟩
          go_wp2
          go_ret2
          exact ⟨by rw [E.out, E'.out]; rfl, HB7.out⟩

end Go.Proofs.YtgnpffkfbacejaaGreatDoor.Bank
