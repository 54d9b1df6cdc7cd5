/-
  Several texts in one: Plain mathematics on measures: one step modulo 1000003, a row of numbers taken step by step, a text taken byte by byte; nothing of the program stands here. / Plain laws, over any program, on rows of ints in memory: one that can be read, one that the call itself made, and what append makes of the latter; what string of one byte is. / Plain mathematics on banks of registers: a bank's cells, which registers a mask asks for, a bank's fault, what is extended, a digest, and whether two banks are alike; and what memory holds of a bank that was laid in a block. / Contracts of package measure's functions (step, isMeasure, Two, row, All, Of) over this translation: what each returns, and that memory stays as it was. / Plain facts on blocks of memory, over any program: what a block held it holds, and a row of three ints laid in a block of its own. / Contracts of slices.IndexFunc and slices.ContainsFunc at a row of ints and any predicate that leaves what was there: whether any of them is so. / Plain laws, over any program, on rows of records in memory, n cells each: one that can be read, one that the call itself made, and what append makes of the latter; how a slice of records among the arguments reads, opened. / Contracts of package bank's Check, isMask and asked: what each returns, and that memory that was there stays as it was. / Contracts of package bank's Digest and Same: what each returns for every bank and every mask, and that memory that was there stays as it was. / Contract of package bank's Extend: for every bank, every register and every number what it returns, and that memory that was there stays as it was. / What '==' is at two banks, the step of a walk that stores a bank into a block that was laid last, and plain mathematics on extended banks, likeness and digests. / How an argument reads, opened: a slice of ints is a row of ints in memory; an array of ints is the cells of a list of ints. / Plain mathematics on images: which texts are of letters alone, what is wrong with an image, and that a search by runes for what is no letter finds one just where a byte is none. / The library's functions that the program reaches (strconv.Itoa, strconv.Atoi, stringslite.Clone, strings.Index, strings.ContainsFunc), held body by body against those of which the shelf's contracts speak. / Contracts of package image's isLetters, IsVersion and Check: whether a text is of letters alone, and what is wrong with an image; memory that was there stays as it was. / Plain mathematics on texts: which texts are numbers of at most four digits and that they are just those that are printed, and how a text is cut at blanks, whole or as far as four parts. / What the library's variables hold that strconv reads, and contracts of strconv.Itoa, strconv.Atoi and strings.Clone as the program calls them, over the shelf's; memory that was there stays as it was. / Contracts of package image's Print, Measure and Newer: an image as text, its measure, and whether one is newer than another; memory that was there stays as it was. / Contract of package image's Clone over this translation: it returns the same image, and memory that was there stays as it was. / Plain mathematics on keys and seals: powers modulo 1543, that 64 is of order 257 there, that a seal is right by its key and with no other answer, and what two seals by one number tell. / What package key says, as plain functions: which numbers are secrets, which are of the group, the challenge, the public key, a seal, and what is wrong with one. / Contracts of package key's IsSecret, IsPublic, power and Public over this translation: what each returns, and that memory stays as it was. / Contracts of package key's challenge, Sign and Check over this translation: what each returns, and that memory that was there stays as it was. / Contracts of package key's Check and Hold over this translation: what each returns, and that memory that was there stays as it was. / Plain mathematics on digests: a step can be undone from either side; where one register alone that is asked for is another one, so is the digest; boxes: what a lid tells. / Plain mathematics on boxes: a secret closed, a box opened, what is wrong with either; it opens where it was closed, and just its secret comes out. / Plain mathematics on certs: the last key of some and what is wrong with them, a cert that was made, certs that each one makes for the next, and that what is right goes on from its first part. / Plain mathematics on signed images: what is wrong with one that is made, and with one that is checked; that what is signed is right by its key, and with no other answer. / Contracts of package sign's Make and Check over this translation: what each returns, and that memory that was there stays as it was. / Plain mathematics on quotes: one that is made, one that is checked, whether it tells of a bank; that a quote is right by its key for its number and for no other one, and of whom it tells. / Plain mathematics on rules: what is wrong with some, whether a bank fits, the mask of their registers; who is alike where it counts is judged alike, and a rule more is no easier. / Rules in memory: a row of records of an int and a slice of ints; how a slice of rules, and a rule, among the arguments read, opened. / Plain laws, over any program, on blocks of three and of five cells: how they are read, and stored into. / Plain mathematics on events: what is wrong with some, the bank they come to, that more go on from where fewer were, and which may change places. / Plain mathematics on what is sure: what a quote, with its events, by some rules, is refused for; a quote that nobody sealed is never sure. / Plain mathematics on what is sure: where events come to a bank, its quote is sure just if the mask asks for all that the rules do, and the bank fits.
-/
import Derived.Below
import Derived.WalkKit
import Derived.ProofKit
import Derived.OwnWalk
import Derived.Laws.AppendOwnNone
import Derived.Laws.BytesArg
import Derived.Laws.Rows
import Derived.Laws.BitsLemmas
import Derived.Test.YtidnjnhmkhekeaaDoorRows
import Derived.Handy
import Derived.Deep.LoopGhost
import Derived.Shelf.Abstract
import Derived.OpenShut
import Derived.ChangeSame
import Derived.ChangeArms
import Derived.RowKit
import Derived.Deep.DeepCutAuto
import Derived.Deep.WholeRow
import Derived.Deep.QuietTactic
import Derived.Laws.ResultCell
import Derived.Laws.CopyOwn
import Derived.ChangeKeysEq
import Derived.Laws.StructEq
import Derived.Lib.DecodeN
import Derived.Shelf.GgClosure.StringsIndexFunc
import Derived.Shelf.Strconv.AtoiErr
import Derived.Shelf.Strconv.Itoa3
import Derived.Shelf.Strings.Search3
import Derived.Shelf.Strconv.Clone
import Derived.Shelf.GgClosure.StringsIndexFuncTop
import Derived.Test.YtidnjnhmkhekeaaDoorProg
import Derived.Lib.Atoi
import Derived.Lib.ItoaNum
import Derived.Lib.Split
import Derived.Lib.IndexBytes
import Derived.Shelf.Strconv.Atoi
import Derived.WalkSmall
import Derived.Lib.AtoiErrMem
import Derived.Deep.RegionHeld3
import Derived.Laws.Pointers
import Derived.BigQuiet
namespace Go.Proofs.YtidnjnhmkhekeaaDoor.M

theorem hide {p : Prop} (h : p) : Go.RowKit.Hid p := h

/-- One step of a measure. -/
def stp (t m n : Int) : Int := (t * m + n + 1) % 1000003
theorem stp_ge (t m n : Int) : 0 ≤ stp t m n := by unfold stp; omega
theorem stp_lt (t m n : Int) : stp t m n < 1000003 := by unfold stp; omega
theorem stp_inj (t m a b : Int) (ha : 0 ≤ a) (ha' : a < 1000003) (hb : 0 ≤ b) (hb' : b < 1000003) (h : stp t m a = stp t m b) : a = b := by
  unfold stp at h
  generalize t * m = q at h
  omega

/-- Is it a measure? -/
def isM (n : Int) : Bool := decide (0 ≤ n ∧ n < 1000003)
theorem isM_iff {n : Int} : isM n = true ↔ 0 ≤ n ∧ n < 1000003 := by unfold isM; simp
theorem isM_false {n : Int} : isM n = false ↔ ¬ (0 ≤ n ∧ n < 1000003) := by unfold isM; simp

/-- Are both measures? -/
def both (a b : Int) : Bool := isM a && isM b
theorem both_left {a b : Int} (h : isM a = true) : both a b = isM b := by unfold both; rw [h]; rfl
theorem both_no {a b : Int} (h : isM a = false) : both a b = false := by unfold both; rw [h]; rfl
theorem both_iff {a b : Int} : both a b = true ↔ isM a = true ∧ isM b = true := by unfold both; rw [Bool.and_eq_true]

/-- A row of numbers, step by step. -/
def allFrom (m : Int) (xs : List Int) : Int := xs.foldl (fun m x => stp 7919 m x) m
def okAll (xs : List Int) : Bool := xs.all isM
theorem take_one {α : Type} {xs : List α} {k : Nat} {x : α} (h : xs[k]? = some x) : xs.take (k + 1) = xs.take k ++ [x] := by
  rw [List.take_add_one, h]; rfl
theorem allFrom_take {m : Int} {xs : List Int} {k : Nat} {x : Int} (h : xs[k]? = some x) : allFrom m (xs.take (k + 1)) = stp 7919 (allFrom m (xs.take k)) x := by
  rw [take_one h]; simp [allFrom]
theorem allFrom_snoc (m : Int) (xs : List Int) (x : Int) : allFrom m (xs ++ [x]) = stp 7919 (allFrom m xs) x := by simp [allFrom]
theorem allFrom_range (m : Int) (xs : List Int) (h0 : 0 ≤ m) (h1 : m < 1000003) : 0 ≤ allFrom m xs ∧ allFrom m xs < 1000003 := by
  unfold allFrom
  induction xs generalizing m with
  | nil => exact ⟨h0, h1⟩
  | cons x r ih => exact ih (stp 7919 m x) (stp_ge _ _ _) (stp_lt _ _ _)
theorem okAll_of {xs : List Int} (h : ∀ (k : Nat) (x : Int), xs[k]? = some x → isM x = true) : okAll xs = true := by
  unfold okAll
  rw [List.all_eq_true]
  intro x hx
  obtain ⟨k, hk, e⟩ := List.mem_iff_getElem.1 hx
  exact h k x (by rw [List.getElem?_eq_getElem hk, e])
theorem okAll_at {xs : List Int} (h : okAll xs = true) {k : Nat} {x : Int} (hx : xs[k]? = some x) : isM x = true := by
  unfold okAll at h
  exact List.all_eq_true.1 h x (List.mem_of_getElem? hx)
theorem okAll_not {xs : List Int} {k : Nat} {x : Int} (hx : xs[k]? = some x) (hb : isM x = false) : okAll xs = false := by
  cases h : okAll xs with
  | false => rfl
  | true => rw [okAll_at h hx] at hb; cases hb
theorem okAll_snoc (xs : List Int) (x : Int) : okAll (xs ++ [x]) = (okAll xs && isM x) := by simp [okAll]

/-- A text, byte by byte. -/
def ofFrom (m : Int) (l : List UInt8) : Int := l.foldl (fun m c => stp 257 m c.toNat) m
theorem ofFrom_take {m : Int} {l : List UInt8} {k : Nat} {c : UInt8} (h : l[k]? = some c) : ofFrom m (l.take (k + 1)) = stp 257 (ofFrom m (l.take k)) c.toNat := by
  rw [take_one h]; simp [ofFrom]
theorem ofFrom_snoc (m : Int) (l : List UInt8) (c : UInt8) : ofFrom m (l ++ [c]) = stp 257 (ofFrom m l) c.toNat := by simp [ofFrom]
theorem ofFrom_range (m : Int) (l : List UInt8) (h0 : 0 ≤ m) (h1 : m < 1000003) : 0 ≤ ofFrom m l ∧ ofFrom m l < 1000003 := by
  unfold ofFrom
  induction l generalizing m with
  | nil => exact ⟨h0, h1⟩
  | cons x r ih => exact ih (stp 257 m x.toNat) (stp_ge _ _ _) (stp_lt _ _ _)
end Go.Proofs.YtidnjnhmkhekeaaDoor.M
namespace Go.Proofs.YtidnjnhmkhekeaaDoor.M
open Go.RowKit

/-- A slice of numbers that stand in memory: none at all, or a row of cells from one address on. -/
def Row (w : World) (a : Option Addr) (xs : List Int) : Prop :=
  xs = [] ∨ ∃ b off, a = some ⟨b, off, none⟩ ∧ ∀ (k : Nat) (x : Int), xs[k]? = some x → w.cell? ⟨b, off + k, none⟩ = some (.int .i64 x)

theorem add_none (b off k : Nat) : (⟨b, off, none⟩ : Addr).add k = ⟨b, off + k, none⟩ := by unfold Addr.add; split <;> simp_all

theorem Row.one (b : Nat) (n : Int) (w : World) (h : w.cell? ⟨b, 0, none⟩ = some (.int .i64 n)) : Row w (some ⟨b, 0, none⟩) [n] := by
  refine Or.inr ⟨b, 0, rfl, fun k x hx => ?_⟩
  cases k with
  | zero => simp at hx; subst hx; exact h
  | succ k => simp at hx
theorem Row.below {w w' : World} {a : Option Addr} {xs : List Int} (h : Row w a xs) (hb : Below w.heap.size w w') : Row w' a xs := by
  rcases h with h | ⟨b, off, ha, hc⟩
  · exact Or.inl h
  · refine Or.inr ⟨b, off, ha, fun k x hx => ?_⟩
    have h1 := hc k x hx
    rw [hb.cell (p := ⟨b, off + k, none⟩) (World.block_lt_of_cell? w _ h1)]
    exact h1

/-- An error value and its number: none is nought; else an error of type T that is an int. -/
def IsErr (T : TypeId) (v : Value) (k : Int) : Prop := (v = .nilIface ∧ k = 0) ∨ v = .iface T (.int .i64 k)
def errV (T : TypeId) (k : Int) : Value := if k = 0 then .nilIface else .iface T (.int .i64 k)
theorem isErr_errV (T : TypeId) (k : Int) : IsErr T (errV T k) k := by
  unfold errV
  by_cases h : k = 0
  · rw [if_pos h]; exact Or.inl ⟨rfl, h⟩
  · rw [if_neg h]; exact Or.inr rfl
theorem errV_zero (T : TypeId) : errV T 0 = .nilIface := rfl
theorem errV_one (T : TypeId) : errV T 1 = .iface T (.int .i64 1) := rfl

/-- The fault and the measure of a text, of two numbers, of a row. -/
def ofC (s : ByteArray) : Int := if 24 < s.size then 4 else 0
def ofV (s : ByteArray) : Int := if 24 < s.size then 0 else ofFrom 1 s.data.toList
def twoC (a b : Int) : Int := if isM a = true ∧ isM b = true then 0 else 1
def twoV (a b : Int) : Int := if isM a = true ∧ isM b = true then stp 7919 a b else 0
def allC (xs : List Int) : Int := if 30 < xs.length then 4 else if okAll xs = true then 0 else 1
def allV (xs : List Int) : Int := if 30 < xs.length then 0 else if okAll xs = true then allFrom 0 xs else 0
theorem twoC_ok {a b : Int} (ha : isM a = true) (hb : isM b = true) : twoC a b = 0 := if_pos ⟨ha, hb⟩
theorem twoV_ok {a b : Int} (ha : isM a = true) (hb : isM b = true) : twoV a b = stp 7919 a b := if_pos ⟨ha, hb⟩
theorem twoC_bad {a b : Int} (h : ¬ (isM a = true ∧ isM b = true)) : twoC a b = 1 := if_neg h
theorem twoV_bad {a b : Int} (h : ¬ (isM a = true ∧ isM b = true)) : twoV a b = 0 := if_neg h

/-- A row of ints that the call itself made. -/
def Own (w : World) (base : Nat) (e : TypeId) (v : Value) (xs : List Int) : Prop := w.ownsRow base e 1 v xs.length (xs.map (Value.int .i64))
theorem Own.nil (w : World) (base : Nat) (e : TypeId) : Own w base e (.slice none 0 0) [] := World.ownsRow_nil w base e 1
theorem Own.alloc {w : World} {base : Nat} {e : TypeId} {v : Value} {xs : List Int} (h : Own w base e v xs) (o : Obj) : Own (w.alloc o) base e v xs := World.ownsRow.alloc h o
theorem Own.row {w : World} {base : Nat} {e : TypeId} {v : Value} {xs : List Int} (h : Own w base e v xs) : ∃ a cap, v = .slice a xs.length cap ∧ (a = none → cap = 0) ∧ Row w a xs := by
  have h0 := h
  obtain ⟨_, h2⟩ := h
  rcases h2 with ⟨hv, hn⟩ | ⟨g, cap, cur, hv, _, _, _, _, _, _⟩
  · exact ⟨none, 0, by rw [hv, hn], fun _ => rfl, Or.inl (List.length_eq_zero_iff.1 hn)⟩
  · refine ⟨some ⟨g, 0, none⟩, cap, hv, fun hno => (by cases hno), Or.inr ⟨g, 0, rfl, fun k x hx => ?_⟩⟩
    have hc := World.ownsRow.cells (g := g) h0 (by rw [hv]; rfl) k (.int .i64 x) (by rw [List.getElem?_map, hx]; rfl)
    rw [add_none] at hc
    exact hc
theorem Own.block {w : World} {base : Nat} {e : TypeId} {v : Value} {xs : List Int} (h : Own w base e v xs) : ∀ k, v.ownBlock = some k → base ≤ k := fun k hk => (World.ownsRow.lt h k hk).1

/-- 'x = append(x, ys...)' where x is a row of ints of the call's own and ys can be read: a law for the walk. -/
theorem wpList_app {P : Program} {w : World} {ops : Array Oper} {rest : List Oper} {o : Oper} {a : Act} {Q : Exit → Act → World → Prop} (hgd : o.guard = none) (s x : Operand) (t : TypeId)
    (ho : o.op = .call { callee := .builtin .append, args := #[s, x], argTypes := #[t, t] })
    (base : Nat) (e : TypeId) (hinfo : (P.info? e).map (fun i => (i.zero, i.size, i.bytes)) = some (some (.int .i64 0), 1, 8)) (ht : P.underlying t = some (.slice e))
    (v : Value) (xs : List Int) (hs : a.eval s = v) (hown : Own w base e v xs)
    (ad : Option Addr) (m c : Nat) (ys : List Int) (hx : a.eval x = .slice ad m c) (hm : m = ys.length) (hc : ad = none → c = 0) (hrow : Row w ad ys)
    (hb : xs.length + ys.length ≤ 1000000) (hbase : base ≤ w.heap.size)
    (h : ∀ v' w', Own w' base e v' (xs ++ ys) → w.grownBy w' v.ownBlock → wpList P ops Q rest (a.put o.dst v') w') : wpList P ops Q (o :: rest) a w := by
  obtain ⟨i, hi, hz0, hz1, hz2⟩ := info_parts hinfo
  subst hm
  cases ad with
  | none =>
    have hy : ys = [] := by
      rcases hrow with h | ⟨b, off, h, _⟩
      · exact h
      · cases h
    subst hy
    rw [hc rfl] at hx
    refine wpList_append_own_none hgd s x t ho base e i 1 ht hi v xs.length _ hs hown hx (h v w (by simpa using hown) ⟨rfl, rfl, rfl, Nat.le_refl _, fun _ _ _ => rfl⟩)
  | some ad =>
    refine wpList_append_own w hgd s x t ho base e i (.int .i64 0) 1 8 ht hi hz0 hz1 hz2 rfl (by decide) v xs.length _ hs hown ad ys.length c (ys.map (Value.int .i64)) hx (by simp) ?_ ?_ (by unfold maxLen; omega) (by omega) hbase ?_
    · intro j u hj
      rw [List.getElem?_map] at hj
      obtain ⟨y, hy, rfl⟩ := Option.map_eq_some_iff.1 hj
      rcases hrow with h | ⟨b, off, h, hcell⟩
      · subst h; simp at hy
      · cases h
        rw [add_none]
        exact hcell j y hy
    · intro u hu
      obtain ⟨_, _, rfl⟩ := List.mem_map.1 hu
      rfl
    · intro v' w' h1 h2 _
      refine h v' w' ?_ h2
      have e1 : (xs ++ ys).length = xs.length + ys.length := by simp
      unfold Own
      rw [e1, List.map_append]
      exact h1

/-- string([]byte{c}). -/
theorem run_one_byte {P : Program} (src e dst : TypeId) (hs : P.underlying src = some (.slice e)) (he : P.underlying e = some (.int .u8)) (hd : P.underlying dst = some .string) (c : Int) (t : TypeId) (w : World) (b : Nat) (hb : w.heap.size = b) :
    (convert src dst (.slice (some ⟨b, 0, none⟩) 1 1)).run P (w.alloc (.cells #[.int .u8 c] t)) = .ok (.string (strOfNums [c])) (w.alloc (.cells #[.int .u8 c] t)) :=
  run_convert_bytes_arg _ src e hs he b 0 1 1 [c] rfl (fun i hi => by
    have : i = 0 := by omega
    subst this
    subst hb
    simp) dst hd
theorem app_one_size (s : ByteArray) (c : Int) : (s ++ strOfNums [c]).size = s.size + 1 := by
  rw [ByteArray.size_append, strOfNums_size]; rfl
theorem app_one_list (s : ByteArray) (c : Int) : (s ++ strOfNums [c]).data.toList = s.data.toList ++ [UInt8.ofNat c.toNat] := by
  rw [ByteArray.data_append, Array.toList_append, strOfNums_data]; rfl
theorem byte_back {c : Int} (h0 : 0 ≤ c) (h1 : c ≤ 255) : ((UInt8.ofNat c.toNat).toNat : Int) = c := by
  rw [UInt8.toNat_ofNat']
  omega
end Go.Proofs.YtidnjnhmkhekeaaDoor.M
namespace Go.Proofs.YtidnjnhmkhekeaaDoor.M
open Go.RowKit

/-- A bank's cells. -/
def bankC (xs : List Int) : Array Value := (xs.map (Value.int .i64)).toArray
theorem bankC_size (xs : List Int) : (bankC xs).size = xs.length := by simp [bankC]
theorem bankC_at {xs : List Int} {k : Nat} {x : Int} (h : xs[k]? = some x) : (bankC xs)[k]? = some (.int .i64 x) := by simp [bankC, h]
theorem bankC_set (xs : List Int) (k : Nat) (x : Int) : (bankC xs).setIfInBounds k (.int .i64 x) = bankC (xs.set k x) := by
  unfold bankC
  apply Array.ext'
  simp [List.map_set]
theorem bankC_inj {xs ys : List Int} (h : bankC xs = bankC ys) : xs = ys := by
  unfold bankC at h
  have h1 := congrArg Array.toList h
  simp only [] at h1
  exact (List.map_inj_right (fun a b e => by cases e; rfl)).1 h1

/-- Does a mask ask for a register? -/
def bit (m : Int) (k : Nat) : Bool := decide (m / 2 ^ k % 2 = 1)
theorem and_one (n : Int) : bits .and .i64 n 1 = n % 2 := by
  have h1 : (BitVec.ofInt 64 1).toNat = 2 ^ 1 - 1 := by decide
  have key : (BitVec.ofInt 64 n &&& BitVec.ofInt 64 1).toNat = (n % ((2 ^ 64 : Nat) : Int)).toNat % 2 ^ 1 := by
    rw [BitVec.toNat_and, BitVec.toNat_ofInt, h1, Nat.and_two_pow_sub_one_eq_mod]
  show IntKind.i64.wrap ((BitVec.ofInt 64 n &&& BitVec.ofInt 64 1).toNat : Nat) = n % 2
  rw [key, IntKind.wrap_i64]
  omega
theorem bit_yes {m : Int} {k : Nat} (h : bit m k = true) : bits .and .i64 (m / 2 ^ k) 1 = 1 := by
  rw [and_one]; unfold bit at h; simpa using h
theorem bit_no {m : Int} {k : Nat} (h : bit m k = false) : bits .and .i64 (m / 2 ^ k) 1 = 0 := by
  rw [and_one]; unfold bit at h
  have h1 : ¬ (m / 2 ^ k % 2 = 1) := by simpa using h
  generalize m / 2 ^ k = q at h1 ⊢
  omega
def isMask (m : Int) : Bool := decide (0 ≤ m ∧ m ≤ 255)
theorem isMask_iff {m : Int} : isMask m = true ↔ 0 ≤ m ∧ m ≤ 255 := by unfold isMask; simp
theorem isMask_false {m : Int} : isMask m = false ↔ ¬ (0 ≤ m ∧ m ≤ 255) := by unfold isMask; simp
/-- The registers that a mask asks for, below n. -/
def askedL (m : Int) (n : Nat) : List Int := ((List.range n).filter (bit m)).map fun k : Nat => (k : Int)
theorem askedL_zero (m : Int) : askedL m 0 = [] := rfl
theorem askedL_hit {m : Int} {n : Nat} (h : bit m n = true) : askedL m (n + 1) = askedL m n ++ [(n : Int)] := by simp [askedL, List.range_succ, h]
theorem askedL_miss {m : Int} {n : Nat} (h : bit m n = false) : askedL m (n + 1) = askedL m n := by simp [askedL, List.range_succ, h]
theorem askedL_len (m : Int) (n : Nat) : (askedL m n).length ≤ n := by
  unfold askedL
  rw [List.length_map]
  exact Nat.le_trans (List.length_filter_le _ _) (by simp)
theorem askedL_mem {m : Int} {n : Nat} {i : Int} (h : i ∈ askedL m n) : ∃ k : Nat, k < n ∧ i = k ∧ bit m k = true := by
  unfold askedL at h
  obtain ⟨k, hk, rfl⟩ := List.mem_map.1 h
  rw [List.mem_filter] at hk
  exact ⟨k, List.mem_range.1 hk.1, rfl, hk.2⟩
theorem askedL_of {m : Int} {n k : Nat} (hk : k < n) (h : bit m k = true) : (k : Int) ∈ askedL m n :=
  List.mem_map.2 ⟨k, List.mem_filter.2 ⟨List.mem_range.2 hk, h⟩, rfl⟩

/-- Those of a bank. -/
def pick (xs : List Int) (is : List Int) : List Int := is.map fun i => xs.getD i.toNat 0
theorem pick_take {xs is : List Int} {k : Nat} {i x : Int} (h : is[k]? = some i) (hx : xs[i.toNat]? = some x) : pick xs (is.take (k + 1)) = pick xs (is.take k) ++ [x] := by
  rw [take_one h]
  simp [pick, hx]
theorem pick_len (xs is : List Int) : (pick xs is).length = is.length := by simp [pick]
theorem pick_ok {xs : List Int} (h : okAll xs = true) (hl : xs.length = 8) (m : Int) : okAll (pick xs (askedL m 8)) = true := by
  refine okAll_of fun k x hx => ?_
  simp only [pick, List.getElem?_map, Option.map_eq_some_iff] at hx
  obtain ⟨i, hi, rfl⟩ := hx
  obtain ⟨j, hj, rfl, _⟩ := askedL_mem (List.mem_of_getElem? hi)
  have : xs[j]? = some (xs[j]'(by omega)) := List.getElem?_eq_getElem (by omega)
  simp only [Int.toNat_natCast, List.getD_eq_getElem?_getD, this, Option.getD_some]
  exact okAll_at h this

/-- A bank's fault; a digest's, and it; likeness. -/
def bankE (xs : List Int) : Int := if okAll xs = true then 0 else 1
def digE (xs : List Int) (m : Int) : Int := if okAll xs = true ∧ isMask m = true then 0 else 1
def digV (xs : List Int) (m : Int) : Int := if okAll xs = true ∧ isMask m = true then allFrom 0 (pick xs (askedL m 8)) else 0
def sameE (xs ys : List Int) (m : Int) : Int := if okAll xs = true ∧ okAll ys = true ∧ isMask m = true then 0 else 1
def differ (xs ys : List Int) (m : Int) : Bool := (askedL m 8).any fun i => xs.getD i.toNat 0 != ys.getD i.toNat 0
def sameV (xs ys : List Int) (m : Int) : Bool := if okAll xs = true ∧ okAll ys = true ∧ isMask m = true then !differ xs ys m else false
theorem bankE_ok {xs : List Int} (h : okAll xs = true) : bankE xs = 0 := if_pos h
theorem bankE_bad {xs : List Int} (h : okAll xs = false) : bankE xs = 1 := if_neg (by rw [h]; exact Bool.false_ne_true)
theorem digE_ok {xs : List Int} {m : Int} (h : okAll xs = true) (hm : isMask m = true) : digE xs m = 0 := if_pos ⟨h, hm⟩
theorem digV_ok {xs : List Int} {m : Int} (h : okAll xs = true) (hm : isMask m = true) : digV xs m = allFrom 0 (pick xs (askedL m 8)) := if_pos ⟨h, hm⟩
theorem digE_bad {xs : List Int} {m : Int} (h : ¬ (okAll xs = true ∧ isMask m = true)) : digE xs m = 1 := if_neg h
theorem digV_bad {xs : List Int} {m : Int} (h : ¬ (okAll xs = true ∧ isMask m = true)) : digV xs m = 0 := if_neg h
theorem sameE_ok {xs ys : List Int} {m : Int} (h : okAll xs = true) (h' : okAll ys = true) (hm : isMask m = true) : sameE xs ys m = 0 := if_pos ⟨h, h', hm⟩
theorem sameV_ok {xs ys : List Int} {m : Int} (h : okAll xs = true) (h' : okAll ys = true) (hm : isMask m = true) : sameV xs ys m = !differ xs ys m := if_pos ⟨h, h', hm⟩
theorem sameE_bad {xs ys : List Int} {m : Int} (h : ¬ (okAll xs = true ∧ okAll ys = true ∧ isMask m = true)) : sameE xs ys m = 1 := if_neg h
theorem sameV_bad {xs ys : List Int} {m : Int} (h : ¬ (okAll xs = true ∧ okAll ys = true ∧ isMask m = true)) : sameV xs ys m = false := if_neg h
/-- Extended: its fault, and the bank. -/
def isReg (i : Int) : Bool := decide (0 ≤ i ∧ i < 8)
theorem isReg_iff {i : Int} : isReg i = true ↔ 0 ≤ i ∧ i < 8 := by unfold isReg; simp
theorem isReg_false {i : Int} : isReg i = false ↔ ¬ (0 ≤ i ∧ i < 8) := by unfold isReg; simp
def extOk (xs : List Int) (i m : Int) : Bool := okAll xs && (isReg i && isM m)
theorem extOk_iff {xs : List Int} {i m : Int} : extOk xs i m = true ↔ okAll xs = true ∧ isReg i = true ∧ isM m = true := by unfold extOk; rw [Bool.and_eq_true, Bool.and_eq_true]
def extE (xs : List Int) (i m : Int) : Int := if extOk xs i m = true then 0 else 1
def noBank : List Int := [0, 0, 0, 0, 0, 0, 0, 0]
def extV (xs : List Int) (i m : Int) : List Int := if extOk xs i m = true then xs.set i.toNat (stp 7919 (xs.getD i.toNat 0) m) else noBank
theorem extE_ok {xs : List Int} {i m : Int} (h : extOk xs i m = true) : extE xs i m = 0 := if_pos h
theorem extV_ok {xs : List Int} {i m : Int} (h : extOk xs i m = true) : extV xs i m = xs.set i.toNat (stp 7919 (xs.getD i.toNat 0) m) := if_pos h
theorem extE_bad {xs : List Int} {i m : Int} (h : extOk xs i m = false) : extE xs i m = 1 := if_neg (by rw [h]; exact Bool.false_ne_true)
theorem extV_bad {xs : List Int} {i m : Int} (h : extOk xs i m = false) : extV xs i m = noBank := if_neg (by rw [h]; exact Bool.false_ne_true)
theorem extV_len {xs : List Int} (hl : xs.length = 8) (i m : Int) : (extV xs i m).length = 8 := by
  cases h : extOk xs i m with
  | true => rw [extV_ok h, List.length_set]; exact hl
  | false => rw [extV_bad h]; rfl

theorem any_bad (xs : List Int) : (xs.any fun x => !isM x) = !okAll xs := by
  unfold okAll
  induction xs with
  | nil => rfl
  | cons x r ih => simp only [List.any_cons, List.all_cons, ih]; cases isM x <;> simp

theorem heap_lt {w : World} {b : Nat} {o : Obj} (h : w.heap[b]? = some o) : b < w.heap.size := (Array.getElem?_eq_some_iff.1 h).1
/-- A bank that was laid in a block of its own. -/
theorem bank_cell {w : World} {b : Nat} {xs : List Int} {t : TypeId} {fr : Nat × Nat} (h : w.heap[b]? = some (.cells (bankC xs) t fr)) {k : Nat} {x : Int} (hx : xs[k]? = some x) : w.cell? ⟨b, k, none⟩ = some (.int .i64 x) := by
  rw [cell_of_row w b k _ t fr h]
  exact bankC_at hx
theorem bank_row {w : World} {b : Nat} {xs : List Int} {t : TypeId} {fr : Nat × Nat} (h : w.heap[b]? = some (.cells (bankC xs) t fr)) : Row w (some ⟨b, 0, none⟩) xs :=
  Or.inr ⟨b, 0, rfl, fun k x hx => by rw [Nat.zero_add]; exact bank_cell h hx⟩
end Go.Proofs.YtidnjnhmkhekeaaDoor.M
namespace Go.Proofs.YtidnjnhmkhekeaaDoor.Measure
open Go.ChangeShapes Go.WideShapes Go.ChangeAt Go.RowKit
open Go.Proofs.YtidnjnhmkhekeaaDoor.M
set_option linter.unusedVariables false

theorem ret_pair {a b : Int} {v : Value} (h : a = b) : Ending.returned (.tuple #[.int .i64 a, v]) = .returned (.tuple #[.int .i64 b, v]) := by rw [h]

theorem step_any (m t n : Int) (w : World) (hm0 : 0 ≤ m) (hm1 : m < 1000003) (ht0 : 0 ≤ t) (ht1 : t < 10000) (hn0 : 0 ≤ n) (hn1 : n < 1000003) :
    Calls Tryd.prog 88 #[.int .i64 m, .int .i64 t, .int .i64 n] w fun e w' => e = .returned (.int .i64 (stp t m n)) ∧ w' = w := by
  have hp0 : 0 ≤ t * m := Int.mul_nonneg ht0 hm0
  have hp1 : t * m ≤ 10000 * 1000003 := Int.mul_le_mul (by omega) (by omega) hm0 (by omega)
  go_enter Tryd.func88, Tryd.ntmps88
  go_wp2
  go_ret
  exact ⟨rfl, rfl⟩

theorem is_any (n : Int) (w : World) :
    Calls Tryd.prog 27 #[.int .i64 n] w fun e w' => e = .returned (.bool (isM n)) ∧ w' = w := by
  by_cases h0 : 0 ≤ n
  · by_cases h1 : n < 1000003
    · rw [isM_iff.2 ⟨h0, h1⟩]
      go_enter Tryd.func27, Tryd.ntmps27
      go_wp2
      go_ret
      exact ⟨rfl, rfl⟩
    · rw [isM_false.2 (by omega)]
      go_enter Tryd.func27, Tryd.ntmps27
      go_wp2
      go_ret
      exact ⟨rfl, rfl⟩
  · rw [isM_false.2 (by omega)]
    go_enter Tryd.func27, Tryd.ntmps27
    go_wp2
    go_ret
    exact ⟨rfl, rfl⟩

theorem two_ok (a b : Int) (w : World) (ha : isM a = true) (hb : isM b = true) :
    Calls Tryd.prog 64 #[.int .i64 a, .int .i64 b] w fun e w' => e = .returned (.tuple #[.int .i64 (stp 7919 a b), .nilIface]) ∧ w' = w := by
  have h1 := isM_iff.1 ha
  have h2 := isM_iff.1 hb
  obtain ⟨a0, a1⟩ := h1
  obtain ⟨b0, b1⟩ := h2
  go_enter Tryd.func64, Tryd.ntmps64
  go_wp2_with (first | (go_at_call 27; refine (is_any _ _).mono ?_; rintro e w' ⟨rfl, rfl⟩) | (go_at_call 88; refine (step_any _ _ _ _ (by omega) (by omega) (by omega) (by omega) (by omega) (by omega)).mono ?_; rintro e w' ⟨rfl, rfl⟩))
  go_ret2
  exact ⟨rfl, rfl⟩

theorem two_bad (a b : Int) (w : World) (h : isM a = false ∨ isM b = false) :
    Calls Tryd.prog 64 #[.int .i64 a, .int .i64 b] w fun e w' => e = .returned (.tuple #[.int .i64 0, .iface 77 (.int .i64 1)]) ∧ w' = w := by
  cases ha : isM a with
  | false =>
    go_enter Tryd.func64, Tryd.ntmps64
    go_wp2_with (go_at_call 27; refine (is_any _ _).mono ?_; rintro e w' ⟨rfl, rfl⟩)
    go_ret2
    exact ⟨rfl, rfl⟩
  | true =>
    have hb : isM b = false := by rcases h with h | h; · rw [h] at ha; cases ha
                                  · exact h
    go_enter Tryd.func64, Tryd.ntmps64
    go_wp2_with (go_at_call 27; refine (is_any _ _).mono ?_; rintro e w' ⟨rfl, rfl⟩)
    go_ret2
    exact ⟨rfl, rfl⟩

theorem row_full (a : Option Addr) (n cap : Nat) (w : World) (hn : 30 < n) (hm : n ≤ maxLen) :
    Calls Tryd.prog 89 #[.slice a n cap] w fun e w' => e = .returned (.tuple #[.int .i64 0, .iface 77 (.int .i64 4)]) ∧ w' = w := by
  unfold maxLen at hm
  go_enter Tryd.func89, Tryd.ntmps89
  go_wp2
  go_ret2
  exact ⟨rfl, rfl⟩

set_option maxHeartbeats 400000 in
theorem row_le (a : Option Addr) (xs : List Int) (n cap : Nat) (w : World) (hn : n = xs.length) (hl : n ≤ 30) (hr : Row w a xs) :
    Calls Tryd.prog 89 #[.slice a n cap] w fun e w' =>
      ((okAll xs = true ∧ e = .returned (.tuple #[.int .i64 (allFrom 0 xs), .nilIface])) ∨ (okAll xs = false ∧ e = .returned (.tuple #[.int .i64 0, .iface 77 (.int .i64 1)]))) ∧ w' = w := by
  have hlen : ∀ k, k < n → ∃ x, xs[k]? = some x := fun k hk => ⟨xs[k]'(by omega), List.getElem?_eq_getElem (by omega)⟩
  have HL : Hid (∀ k, k < n → ∃ x, xs[k]? = some x) := hlen
  have HN : Hid (n = xs.length) := hn
  have HR : Hid (Row w a xs) := hr
  clear hlen hn hr
  go_enter Tryd.func89, Tryd.ntmps89
  go_wp2
  go_loop [4, 15] (fun m i => ∃ k : Nat, k ≤ n ∧ i = .int .i64 k ∧ m = .int .i64 (allFrom 0 (xs.take k)) ∧ ∀ (j : Nat) (x : Int), j < k → xs[j]? = some x → isM x = true) (fun _ i => n - (intOf i).toNat)
  case atStart => exact ⟨0, by omega, rfl, rfl, fun j x h => by omega⟩
  case round =>
    obtain ⟨k, hk, rfl, rfl, hall⟩ := hrel
    have HA : Hid (∀ (j : Nat) (x : Int), j < k → xs[j]? = some x → isM x = true) := hall
    clear hall
    have hrg := allFrom_range 0 (xs.take k) (by omega) (by omega)
    obtain ⟨hr0, hr1⟩ := hrg
    by_cases hlt : k < n
    · obtain ⟨x, hx⟩ := HL.out k hlt
      have HX : Hid (xs[k]? = some x) := hx
      clear hx
      have hrow : ∃ b off, a = some ⟨b, off, none⟩ ∧ w.cell? ⟨b, off + k, none⟩ = some (.int .i64 x) := by
        rcases HR.out with h | ⟨b, off, h1, h2⟩
        · have := HX.out; rw [h] at this; simp at this
        · exact ⟨b, off, h1, h2 k x HX.out⟩
      obtain ⟨b, off, rfl, hc⟩ := hrow
      cases hmx : isM x with
      | true =>
        go_wp2_with (go_at_call 64; refine (two_ok _ _ _ (isM_iff.2 ⟨by assumption, by assumption⟩) (by assumption)).mono ?_; rintro e w' ⟨rfl, rfl⟩)
        go_round
        case rel => exact ⟨k + 1, by omega, by go_num, by rw [allFrom_take HX.out], fun j y hj hy => by
          by_cases e : j = k
          · subst e; rw [HX.out] at hy; cases hy; exact hmx
          · exact HA.out j y (by omega) hy⟩
        case measure => simp [intOf]; omega
      | false =>
        go_wp2_with (go_at_call 64; refine (two_bad _ _ _ (Or.inr (by assumption))).mono ?_; rintro e w' ⟨rfl, rfl⟩)
        go_ret2
        exact ⟨Or.inr ⟨okAll_not HX.out hmx, rfl⟩, rfl⟩
    · go_wp2
      go_ret2
      have hkn : k = n := by omega
      have htk : xs.take k = xs := List.take_of_length_le (by have := HN.out; omega)
      refine ⟨Or.inl ⟨okAll_of fun j x hx => HA.out j x ?_ hx, ?_⟩, rfl⟩
      · have := (List.getElem?_eq_some_iff.1 hx).1
        have := HN.out
        omega
      · exact ret_pair (by rw [htk])

theorem row_ok (a : Option Addr) (xs : List Int) (n cap : Nat) (w : World) (hn : n = xs.length) (hl : n ≤ 30) (hr : Row w a xs) (ho : okAll xs = true) :
    Calls Tryd.prog 89 #[.slice a n cap] w fun e w' => e = .returned (.tuple #[.int .i64 (allFrom 0 xs), .nilIface]) ∧ w' = w := by
  refine (row_le a xs n cap w hn hl hr).mono ?_
  rintro e w' ⟨⟨_, he⟩ | ⟨hb, _⟩, hw⟩
  · exact ⟨he, hw⟩
  · rw [ho] at hb; cases hb
theorem row_bad (a : Option Addr) (xs : List Int) (n cap : Nat) (w : World) (hn : n = xs.length) (hl : n ≤ 30) (hr : Row w a xs) (ho : okAll xs = false) :
    Calls Tryd.prog 89 #[.slice a n cap] w fun e w' => e = .returned (.tuple #[.int .i64 0, .iface 77 (.int .i64 1)]) ∧ w' = w := by
  refine (row_le a xs n cap w hn hl hr).mono ?_
  rintro e w' ⟨⟨hb, _⟩ | ⟨_, he⟩, hw⟩
  · rw [ho] at hb; cases hb
  · exact ⟨he, hw⟩

theorem all_full (a : Option Addr) (n cap : Nat) (w : World) (hn : 30 < n) (hm : n ≤ maxLen) :
    Calls Tryd.prog 67 #[.slice a n cap] w fun e w' => e = .returned (.tuple #[.int .i64 0, .iface 77 (.int .i64 4)]) ∧ w' = w := by
  go_enter Tryd.func67, Tryd.ntmps67
  go_wp2_with (go_at_call 89; refine (row_full _ _ _ _ hn hm).mono ?_; rintro e w' ⟨rfl, rfl⟩)
  go_ret2
  exact ⟨rfl, rfl⟩
theorem all_ok (a : Option Addr) (xs : List Int) (n cap : Nat) (w : World) (hn : n = xs.length) (hl : n ≤ 30) (hr : Row w a xs) (ho : okAll xs = true) :
    Calls Tryd.prog 67 #[.slice a n cap] w fun e w' => e = .returned (.tuple #[.int .i64 (allFrom 0 xs), .nilIface]) ∧ w' = w := by
  have c := row_ok a xs n cap w hn hl hr ho
  have C : Hid (Calls Tryd.prog 89 #[.slice a n cap] w fun e w' => e = .returned (.tuple #[.int .i64 (allFrom 0 xs), .nilIface]) ∧ w' = w) := c
  clear c hn ho
  go_enter Tryd.func67, Tryd.ntmps67
  go_wp2_with (go_at_call 89; refine C.out.mono ?_; rintro e w' ⟨rfl, rfl⟩)
  go_ret2
  exact ⟨rfl, rfl⟩
theorem all_bad (a : Option Addr) (xs : List Int) (n cap : Nat) (w : World) (hn : n = xs.length) (hl : n ≤ 30) (hr : Row w a xs) (ho : okAll xs = false) :
    Calls Tryd.prog 67 #[.slice a n cap] w fun e w' => e = .returned (.tuple #[.int .i64 0, .iface 77 (.int .i64 1)]) ∧ w' = w := by
  have c := row_bad a xs n cap w hn hl hr ho
  have C : Hid (Calls Tryd.prog 89 #[.slice a n cap] w fun e w' => e = .returned (.tuple #[.int .i64 0, .iface 77 (.int .i64 1)]) ∧ w' = w) := c
  clear c hn ho
  go_enter Tryd.func67, Tryd.ntmps67
  go_wp2_with (go_at_call 89; refine C.out.mono ?_; rintro e w' ⟨rfl, rfl⟩)
  go_ret2
  exact ⟨rfl, rfl⟩

theorem of_full (s : ByteArray) (w : World) (hn : 24 < s.size) (hm : s.size ≤ 1152921504606846976) :
    Calls Tryd.prog 80 #[.string s] w fun e w' => e = .returned (.tuple #[.int .i64 0, .iface 77 (.int .i64 4)]) ∧ w' = w := by
  go_enter Tryd.func80, Tryd.ntmps80
  go_wp2
  go_ret2
  exact ⟨rfl, rfl⟩

set_option maxHeartbeats 400000 in
theorem of_ok (s : ByteArray) (w : World) (hl : s.size ≤ 24) :
    Calls Tryd.prog 80 #[.string s] w fun e w' => e = .returned (.tuple #[.int .i64 (ofFrom 1 s.data.toList), .nilIface]) ∧ w' = w := by
  go_enter Tryd.func80, Tryd.ntmps80
  go_wp2
  go_loop [4, 12] (fun m i => ∃ k : Nat, k ≤ s.size ∧ i = .int .i64 k ∧ m = .int .i64 (ofFrom 1 (s.data.toList.take k))) (fun _ i => s.size - (intOf i).toNat)
  case atStart => exact ⟨0, by omega, rfl, rfl⟩
  case round =>
    obtain ⟨k, hk, rfl, rfl⟩ := hrel
    have hrg := ofFrom_range 1 (s.data.toList.take k) (by omega) (by omega)
    obtain ⟨hr0, hr1⟩ := hrg
    by_cases hlt : k < s.size
    · have hb := (s[k]).toNat_lt
      have HX : Hid (s.data.toList[k]? = some s[k]) := by show s.data.toList[k]? = some s[k]; rw [List.getElem?_eq_getElem (by simpa using hlt)]; rfl
      go_wp2_with (go_at_call 88; refine (step_any _ _ _ _ (by omega) (by omega) (by omega) (by omega) (by omega) (by omega)).mono ?_; rintro e w' ⟨rfl, rfl⟩)
      go_round
      case rel => exact ⟨k + 1, by omega, by go_num, by rw [ofFrom_take HX.out]⟩
      case measure => simp [intOf]; omega
    · go_wp2
      go_ret2
      have htk : s.data.toList.take k = s.data.toList := List.take_of_length_le (by simp; omega)
      exact ⟨ret_pair (by rw [htk]), rfl⟩

theorem of_any (s : ByteArray) (w : World) (hm : s.size ≤ 1152921504606846976) :
    Calls Tryd.prog 80 #[.string s] w fun e w' => e = .returned (.tuple #[.int .i64 (ofV s), errV 77 (ofC s)]) ∧ w' = w := by
  unfold ofV ofC
  by_cases h : 24 < s.size
  · rw [if_pos h, if_pos h]; exact of_full s w h hm
  · rw [if_neg h, if_neg h]; exact of_ok s w (by omega)
theorem two_any (a b : Int) (w : World) :
    Calls Tryd.prog 64 #[.int .i64 a, .int .i64 b] w fun e w' => e = .returned (.tuple #[.int .i64 (twoV a b), errV 77 (twoC a b)]) ∧ w' = w := by
  by_cases h : isM a = true ∧ isM b = true
  · rw [twoV_ok h.1 h.2, twoC_ok h.1 h.2]; exact two_ok a b w h.1 h.2
  · rw [twoV_bad h, twoC_bad h]
    refine two_bad a b w ?_
    cases ha : isM a with
    | false => exact Or.inl rfl
    | true => cases hb : isM b with
      | false => exact Or.inr rfl
      | true => exact absurd ⟨ha, hb⟩ h
theorem all_any (a : Option Addr) (xs : List Int) (n cap : Nat) (w : World) (hn : n = xs.length) (hm : n ≤ maxLen) (hr : Row w a xs) :
    Calls Tryd.prog 67 #[.slice a n cap] w fun e w' => e = .returned (.tuple #[.int .i64 (allV xs), errV 77 (allC xs)]) ∧ w' = w := by
  unfold allV allC
  by_cases h : 30 < xs.length
  · rw [if_pos h, if_pos h]; exact all_full a n cap w (by omega) hm
  · rw [if_neg h, if_neg h]
    cases ho : okAll xs with
    | true => exact all_ok a xs n cap w hn (by omega) hr ho
    | false => exact all_bad a xs n cap w hn (by omega) hr ho
end Go.Proofs.YtidnjnhmkhekeaaDoor.Measure
namespace Go.Proofs.YtidnjnhmkhekeaaDoor.M
open Go.RowKit

theorem blk_lt {w : World} {b : Nat} {o : Obj} (h : w.heap[b]? = some o) : b < w.heap.size := (Array.getElem?_eq_some_iff.1 h).1
theorem blk_below {w w' : World} {b : Nat} {o : Obj} (h : w.heap[b]? = some o) (hb : Below w.heap.size w w') : w'.heap[b]? = some o := (hb.block b (blk_lt h)).trans h
theorem blk_keep {w : World} {b : Nat} {o : Obj} (h : w.heap[b]? = some o) (o' : Obj) : (w.alloc o').heap[b]? = some o := (Go.RowKit.Below.heap_alloc w o' b (blk_lt h)).trans h
theorem blk_new (w : World) (o : Obj) : (w.alloc o).heap[w.heap.size]? = some o := by
  show (w.heap.push o)[w.heap.size]? = some o
  exact Array.getElem?_push_size
theorem below_new (w : World) (o : Obj) : Below w.heap.size w (w.alloc o) := (Below.refl _ w).alloc (Nat.le_refl _) o
theorem below_on {w w1 w2 : World} (h : Below w.heap.size w w1) (h2 : Below w1.heap.size w1 w2) : Below w.heap.size w w2 := h.trans (h2.mono h.size)
theorem Row.three {w : World} {b : Nat} {p q m : Int} {t : TypeId} {fr : Nat × Nat} (h : w.heap[b]? = some (.cells #[.int .i64 p, .int .i64 q, .int .i64 m] t fr)) : Row w (some ⟨b, 0, none⟩) [p, q, m] := by
  refine Or.inr ⟨b, 0, rfl, fun k x hx => ?_⟩
  have hc : ∀ j, w.cell? ⟨b, j, none⟩ = (#[Value.int .i64 p, .int .i64 q, .int .i64 m])[j]? := fun j => by rw [cell_of_row w b _ _ t fr h]
  rw [Nat.zero_add, hc]
  match k with
  | 0 => simp at hx; subst hx; rfl
  | 1 => simp at hx; subst hx; rfl
  | 2 => simp at hx; subst hx; rfl
  | k + 3 => simp at hx
/-- The cells of a seal, laid in a block of its own. -/
def sealC (p a : Int) : Array Value := #[.int .i64 p, .int .i64 a]
theorem seal_cells {w : World} {b : Nat} {p a : Int} {t : TypeId} {fr : Nat × Nat} (h : w.heap[b]? = some (.cells #[.int .i64 p, .int .i64 a] t fr)) :
    w.cell? ⟨b, 0, none⟩ = some (.int .i64 p) ∧ w.cell? ⟨b, 1, none⟩ = some (.int .i64 a) := by
  refine ⟨?_, ?_⟩ <;> rw [cell_of_row w b _ _ t fr h] <;> rfl
theorem seal_free {w : World} {b : Nat} {c : Array Value} {t : TypeId} (h : w.heap[b]? = some (.cells c t)) :
    w.frozen? ⟨b, 0, none⟩ = false ∧ w.frozen? ⟨b, 1, none⟩ = false := ⟨frozen_of_row w b 0 _ _ h, frozen_of_row w b 1 _ _ h⟩
theorem two_set {w : World} {b : Nat} {a0 a1 x y : Value} {t : TypeId} {fr : Nat × Nat} (hg : w.heap[b]? = some (.cells #[a0, a1] t fr)) :
    (w.setCell ⟨b, 0, none⟩ x).setCell ⟨b, 1, none⟩ y = w.setRow b #[x, y] := by
  rw [setCell_eq_setRow w b 0 _ _ _ x hg]
  have h1 := setRow_heap w b _ (#[a0, a1].setIfInBounds 0 x) t fr hg
  rw [setCell_eq_setRow _ b 1 _ _ _ y h1, setRow_setRow]
  rfl
end Go.Proofs.YtidnjnhmkhekeaaDoor.M
namespace Go.Proofs.YtidnjnhmkhekeaaDoor.Any
open Go.ChangeShapes Go.WideShapes Go.ChangeAt Go.RowKit
open Go.Proofs.YtidnjnhmkhekeaaDoor.M
set_option linter.unusedVariables false

/-- What is asked of a function value: at each number of the list, in whatever world that holds what w holds, it tells p, and leaves such a world. -/
def Tells (g : Nat) (lb : Array Value) (p : Int → Bool) (xs : List Int) (w : World) : Prop :=
  ∀ (W : World) (x : Int), x ∈ xs → Below w.heap.size w W → Calls Tryd.prog g (#[.int .i64 x] ++ lb) W fun e w' => e = .returned (.bool (p x)) ∧ Below w.heap.size w w'

set_option maxHeartbeats 2000000 in
theorem index_any (a : Option Addr) (xs : List Int) (n cap : Nat) (g : Nat) (lb : Array Value) (p : Int → Bool) (w : World) (hn : n = xs.length) (hl : n ≤ 1000000) (hr : Row w a xs)
    (eg : ∀ args w, (callFunc g args).run Tryd.prog w = .ok (.enter g args) w) (hp : Tells g lb p xs w) :
    Calls Tryd.prog 102 #[.slice a n cap, .func (.func g) #[] lb] w fun e w' => (∃ r : Int, e = .returned (.int .i64 r) ∧ decide (0 ≤ r) = xs.any p) ∧ Below w.heap.size w w' := by
  have HL : Hid (∀ k, k < n → ∃ x, xs[k]? = some x) := fun k hk => ⟨xs[k]'(by omega), List.getElem?_eq_getElem (by omega)⟩
  have HN := hide hn
  have HR := hide hr
  have HP := hide hp
  clear hn hr hp
  go_enter Tryd.func102, Tryd.ntmps102
  go_wp2
  go_loopw [5, 8] (fun _ i wr => ∃ k : Nat, k ≤ n ∧ i = .int .i64 k ∧ Hid (Below w.heap.size w wr) ∧ Hid (∀ (j : Nat) (x : Int), j < k → xs[j]? = some x → p x = false)) (fun _ i _ => n - (intOf i).toNat)
  case atStart => exact ⟨0, by omega, rfl, Below.refl _ _, fun j x h => by omega⟩
  case round =>
    obtain ⟨k, hk, rfl, HB, HA⟩ := hrel
    by_cases hlt : k < n
    · obtain ⟨x, hx⟩ := HL.out k hlt
      have HX := hide hx
      clear hx
      have hrow : ∃ b off, a = some ⟨b, off, none⟩ ∧ wr.cell? ⟨b, off + k, none⟩ = some (.int .i64 x) := by
        rcases HR.out.below HB.out with h | ⟨b, off, h1, h2⟩
        · have := HX.out; rw [h] at this; simp at this
        · exact ⟨b, off, h1, h2 k x HX.out⟩
      obtain ⟨b, off, rfl, hc⟩ := hrow
      have hcall := HP.out wr x (List.mem_of_getElem? HX.out) HB.out
      cases hq : p x with
      | true =>
        rw [hq] at hcall
        go_wp2_with (go_at_fn g; refine hcall.mono ?_; rintro e w' ⟨rfl, hb'⟩)
        go_ret
        refine ⟨⟨k, rfl, ?_⟩, hb'⟩
        rw [List.any_eq_true.2 ⟨x, List.mem_of_getElem? HX.out, hq⟩]
        simp
      | false =>
        rw [hq] at hcall
        go_wp2_with (go_at_fn g; refine hcall.mono ?_; rintro e w' ⟨rfl, hb'⟩)
        go_roundw
        case rel => exact ⟨k + 1, by omega, by go_num, hb', fun j y hj hy => by
          by_cases e : j = k
          · subst e; rw [HX.out] at hy; cases hy; exact hq
          · exact HA.out j y (by omega) hy⟩
        case measure => simp [intOf]; omega
    · go_wp2
      go_ret
      refine ⟨⟨-1, rfl, ?_⟩, HB.out⟩
      have h0 : xs.any p = false := by
        rw [List.any_eq_false]
        intro x hx
        obtain ⟨j, hj, e⟩ := List.mem_iff_getElem.1 hx
        rw [HA.out j x (by have := HN.out; omega) (by rw [List.getElem?_eq_getElem hj, e])]
        simp
      rw [h0]
      rfl

theorem contains_any (a : Option Addr) (xs : List Int) (n cap : Nat) (g : Nat) (lb : Array Value) (p : Int → Bool) (w : World) (hn : n = xs.length) (hl : n ≤ 1000000) (hr : Row w a xs)
    (eg : ∀ args w, (callFunc g args).run Tryd.prog w = .ok (.enter g args) w) (hp : Tells g lb p xs w) :
    Calls Tryd.prog 83 #[.slice a n cap, .func (.func g) #[] lb] w fun e w' => e = .returned (.bool (xs.any p)) ∧ Below w.heap.size w w' := by
  have C := hide (index_any a xs n cap g lb p w hn hl hr eg hp)
  clear hn hr hp
  go_enter Tryd.func83, Tryd.ntmps83
  go_wp2_with (fail)
  refine C.out.mono ?_
  rintro e w' ⟨⟨r, rfl, hr⟩, hb⟩
  have HR := hide hr
  clear hr
  go_wp2
  go_ret
  exact ⟨by rw [← HR.out]; rfl, hb⟩
end Go.Proofs.YtidnjnhmkhekeaaDoor.Any
namespace Go.Proofs.YtidnjnhmkhekeaaDoor.M
open Go.RowKit Go.ChangeShapes Go.WideShapes Go.ChangeAt

section
variable {α : Type} {n : Nat} {cv : α → List Value}

/-- A slice of records that stand in memory: none at all, or rows of cells from one address on. -/
def RRow (n : Nat) (cv : α → List Value) (w : World) (a : Option Addr) (xs : List α) : Prop :=
  xs = [] ∨ ∃ b off, a = some ⟨b, off, none⟩ ∧ ∀ (k : Nat) (x : α), xs[k]? = some x → ∀ (j : Nat) (v : Value), (cv x)[j]? = some v → w.cell? ⟨b, off + k * n + j, none⟩ = some v
theorem RRow.nil (w : World) (a : Option Addr) : RRow n cv w a [] := Or.inl rfl
theorem RRow.below {w w' : World} {a : Option Addr} {xs : List α} (h : RRow n cv w a xs) (hb : Below w.heap.size w w') : RRow n cv w' a xs := by
  rcases h with h | ⟨b, off, ha, hc⟩
  · exact Or.inl h
  · refine Or.inr ⟨b, off, ha, fun k x hx j v hv => ?_⟩
    have h1 := hc k x hx j v hv
    rw [hb.cell (p := ⟨b, off + k * n + j, none⟩) (World.block_lt_of_cell? w _ h1)]
    exact h1
theorem RRow.take {w : World} {a : Option Addr} {xs : List α} (h : RRow n cv w a xs) (k : Nat) : RRow n cv w a (xs.take k) := by
  rcases h with h | ⟨b, off, ha, hc⟩
  · exact Or.inl (by rw [h]; simp)
  · refine Or.inr ⟨b, off, ha, fun i x hx => hc i x ?_⟩
    rw [List.getElem?_take] at hx
    split at hx
    · exact hx
    · cases hx
theorem RRow.drop {w : World} {b off : Nat} {xs : List α} (h : RRow n cv w (some ⟨b, off, none⟩) xs) (k : Nat) : RRow n cv w (some ⟨b, off + k * n, none⟩) (xs.drop k) := by
  rcases h with h | ⟨b', off', ha, hc⟩
  · exact Or.inl (by rw [h]; simp)
  · cases ha
    refine Or.inr ⟨b, off + k * n, rfl, fun i x hx j v hv => ?_⟩
    rw [List.getElem?_drop] at hx
    have := hc (k + i) x hx j v hv
    rw [Nat.add_mul, ← Nat.add_assoc] at this
    exact this
theorem RRow.dropO {w : World} {a : Option Addr} {xs : List α} (h : RRow n cv w a xs) (k : Nat) : RRow n cv w (a.map (fun x => x.add (k * n))) (xs.drop k) := by
  have h0 := h
  rcases h with h | ⟨b, off, ha, hc⟩
  · exact Or.inl (by rw [h]; simp)
  · subst ha
    have := RRow.drop h0 k
    rw [Option.map_some, add_none]
    exact this
/-- The address of a row that is none of none. -/
theorem RRow.at {w : World} {a : Option Addr} {xs : List α} {k : Nat} {x : α} (h : RRow n cv w a xs) (hx : xs[k]? = some x) :
    ∃ b off, a = some ⟨b, off, none⟩ ∧ ∀ (j : Nat) (v : Value), (cv x)[j]? = some v → w.cell? ⟨b, off + k * n + j, none⟩ = some v := by
  rcases h with h | ⟨b, off, ha, hc⟩
  · rw [h] at hx; simp at hx
  · exact ⟨b, off, ha, hc k x hx⟩

/-- A row of records that the call itself made. -/
def OwnR (n : Nat) (cv : α → List Value) (w : World) (base : Nat) (e : TypeId) (v : Value) (xs : List α) : Prop := w.ownsRow base e n v xs.length (xs.flatMap cv)
theorem OwnR.nil (w : World) (base : Nat) (e : TypeId) : OwnR n cv w base e (.slice none 0 0) [] := World.ownsRow_nil w base e n
theorem OwnR.alloc {w : World} {base : Nat} {e : TypeId} {v : Value} {xs : List α} (h : OwnR n cv w base e v xs) (o : Obj) : OwnR n cv (w.alloc o) base e v xs := World.ownsRow.alloc h o
theorem OwnR.block {w : World} {base : Nat} {e : TypeId} {v : Value} {xs : List α} (h : OwnR n cv w base e v xs) : ∀ k, v.ownBlock = some k → base ≤ k := fun k hk => (World.ownsRow.lt h k hk).1
theorem OwnR.below {w w' : World} {base : Nat} {e : TypeId} {v : Value} {xs : List α} (h : OwnR n cv w base e v xs) (hb : Below w.heap.size w w') : OwnR n cv w' base e v xs := by
  refine ⟨h.1, ?_⟩
  rcases h.2 with h2 | ⟨g, cap, cur, h1, h2, h3, h4⟩
  · exact Or.inl h2
  · exact Or.inr ⟨g, cap, cur, h1, h2, blk_below h3 hb, h4⟩
theorem flat_at (hl : ∀ x, (cv x).length = n) : ∀ (xs : List α) (k : Nat) (x : α), xs[k]? = some x → ∀ (j : Nat), j < n → (xs.flatMap cv)[k * n + j]? = (cv x)[j]?
  | [], k, x, hx, j, hj => by simp at hx
  | y :: r, 0, x, hx, j, hj => by
    simp at hx
    subst hx
    rw [List.flatMap_cons, Nat.zero_mul, Nat.zero_add, List.getElem?_append_left (by rw [hl]; exact hj)]
  | y :: r, k + 1, x, hx, j, hj => by
    rw [List.flatMap_cons, List.getElem?_append_right (by rw [hl, Nat.succ_mul]; omega), hl, show (k + 1) * n + j - n = k * n + j by rw [Nat.succ_mul]; omega]
    exact flat_at hl r k x (by simpa using hx) j hj
theorem OwnR.row {w : World} {base : Nat} {e : TypeId} {v : Value} {xs : List α} (hl : ∀ x, (cv x).length = n) (h : OwnR n cv w base e v xs) : ∃ a cap, v = .slice a xs.length cap ∧ (a = none → cap = 0) ∧ RRow n cv w a xs := by
  have h0 := h
  obtain ⟨_, h2⟩ := h
  rcases h2 with ⟨hv, hn⟩ | ⟨g, cap, cur, hv, _, _, _, _, _, _⟩
  · exact ⟨none, 0, by rw [hv, hn], fun _ => rfl, Or.inl (List.length_eq_zero_iff.1 hn)⟩
  · refine ⟨some ⟨g, 0, none⟩, cap, hv, fun hno => (by cases hno), Or.inr ⟨g, 0, rfl, fun k x hx j u hu => ?_⟩⟩
    have hj : j < n := by have := (List.getElem?_eq_some_iff.1 hu).1; rw [hl] at this; exact this
    have hc := World.ownsRow.cells (g := g) h0 (by rw [hv]; rfl) (k * n + j) u (by rw [flat_at hl xs k x hx j hj]; exact hu)
    rw [add_none] at hc
    rw [Nat.zero_add] at hc ⊢
    exact hc

/-- 'x = append(x, y)' where x is a row of records of the call's own: a law for the walk. -/
theorem wpList_appR {P : Program} {w : World} {ops : Array Oper} {rest : List Oper} {o : Oper} {a : Act} {Q : Exit → Act → World → Prop} (hgd : o.guard = none) (s x : Operand) (t : TypeId)
    (ho : o.op = .call { callee := .builtin .append, args := #[s, x], argTypes := #[t, t] })
    (base : Nat) (e : TypeId) (z : Value) (bytes : Nat) (hinfo : (P.info? e).map (fun i => (i.zero, i.size, i.bytes)) = some (some z, n, bytes)) (hz : z.cells.size = n) (hn : 0 < n) (hby : bytes ≤ 1000000) (ht : P.underlying t = some (.slice e))
    (hl : ∀ x, (cv x).length = n) (h1 : ∀ x, ∀ u ∈ cv x, u.oneCell' = true)
    (v : Value) (xs : List α) (hs : a.eval s = v) (hown : OwnR n cv w base e v xs)
    (b : Nat) (y : α) (hx : a.eval x = .slice (some ⟨b, 0, none⟩) 1 1) (hcell : ∀ (j : Nat) (u : Value), (cv y)[j]? = some u → w.cell? ⟨b, j, none⟩ = some u)
    (hb : xs.length ≤ 1000000) (hbase : base ≤ w.heap.size)
    (h : ∀ v' w', OwnR n cv w' base e v' (xs ++ [y]) → w.grownBy w' v.ownBlock → wpList P ops Q rest (a.put o.dst v') w') : wpList P ops Q (o :: rest) a w := by
  obtain ⟨i, hi, hz0, hz1, hz2⟩ := info_parts hinfo
  have hbb : (xs.length + 1) * bytes ≤ 140737488355328 := Nat.le_trans (Nat.mul_le_mul (Nat.succ_le_succ hb) hby) (by omega)
  refine wpList_append_own w hgd s x t ho base e i z n bytes ht hi hz0 hz1 hz2 hz hn v xs.length _ hs hown ⟨b, 0, none⟩ 1 1 (cv y) hx (by rw [hl, Nat.one_mul]) ?_ (h1 y) (by unfold maxLen; omega) hbb hbase ?_
  · intro j u hj
    rw [add_none, Nat.zero_add]
    exact hcell j u hj
  · intro v' w' h2 h3 _
    refine h v' w' ?_ h3
    unfold OwnR
    rw [List.length_append, List.flatMap_append, List.flatMap_singleton]
    exact h2
theorem flat_len (hl : ∀ x, (cv x).length = n) : ∀ xs : List α, (xs.flatMap cv).length = xs.length * n
  | [] => by simp
  | x :: r => by rw [List.flatMap_cons, List.length_append, hl, flat_len hl r, List.length_cons, Nat.succ_mul]; omega
/-- 'x = append(x, ys...)' where x is a row of records of the call's own and ys can be read: a law for the walk. -/
theorem wpList_appRs {P : Program} {w : World} {ops : Array Oper} {rest : List Oper} {o : Oper} {a : Act} {Q : Exit → Act → World → Prop} (hgd : o.guard = none) (s x : Operand) (t : TypeId)
    (ho : o.op = .call { callee := .builtin .append, args := #[s, x], argTypes := #[t, t] })
    (base : Nat) (e : TypeId) (z : Value) (bytes : Nat) (hinfo : (P.info? e).map (fun i => (i.zero, i.size, i.bytes)) = some (some z, n, bytes)) (hz : z.cells.size = n) (hn : 0 < n) (hby : bytes ≤ 1000000) (ht : P.underlying t = some (.slice e))
    (hl : ∀ x, (cv x).length = n) (v : Value) (xs : List α) (hs : a.eval s = v) (hown : OwnR n cv w base e v xs)
    (ad : Option Addr) (m c : Nat) (ys : List α) (hx : a.eval x = .slice ad m c) (hm : m = ys.length) (hc : ad = none → c = 0) (hrow : RRow n cv w ad ys) (h1 : ∀ y ∈ ys, ∀ u ∈ cv y, u.oneCell' = true)
    (hb : xs.length + ys.length ≤ 1000000) (hbase : base ≤ w.heap.size)
    (h : ∀ v' w', OwnR n cv w' base e v' (xs ++ ys) → w.grownBy w' v.ownBlock → wpList P ops Q rest (a.put o.dst v') w') : wpList P ops Q (o :: rest) a w := by
  obtain ⟨i, hi, hz0, hz1, hz2⟩ := info_parts hinfo
  subst hm
  cases ad with
  | none =>
    have hy : ys = [] := by
      rcases hrow with h | ⟨b, off, h, _⟩
      · exact h
      · cases h
    subst hy
    rw [hc rfl] at hx
    exact wpList_append_own_none hgd s x t ho base e i n ht hi v xs.length _ hs hown hx (h v w (by simpa using hown) ⟨rfl, rfl, rfl, Nat.le_refl _, fun _ _ _ => rfl⟩)
  | some ad =>
    have hbb : (xs.length + ys.length) * bytes ≤ 140737488355328 := Nat.le_trans (Nat.mul_le_mul hb hby) (by omega)
    refine wpList_append_own w hgd s x t ho base e i z n bytes ht hi hz0 hz1 hz2 hz hn v xs.length _ hs hown ad ys.length c (ys.flatMap cv) hx (flat_len hl ys) ?_ ?_ (by unfold maxLen; omega) hbb hbase ?_
    · intro j u hj
      rcases hrow with h | ⟨b, off, h, hcell⟩
      · subst h; simp at hj
      · cases h
        have hlt : j < ys.length * n := by have := (List.getElem?_eq_some_iff.1 hj).1; rw [flat_len hl] at this; exact this
        have hk : j / n < ys.length := Nat.div_lt_of_lt_mul (by rw [Nat.mul_comm]; exact hlt)
        have hyk := List.getElem?_eq_getElem hk
        have e1 : j / n * n + j % n = j := by rw [Nat.mul_comm]; exact Nat.div_add_mod j n
        have e2 := flat_at hl ys (j / n) _ hyk (j % n) (Nat.mod_lt _ hn)
        rw [e1, hj] at e2
        have := hcell (j / n) _ hyk (j % n) u e2.symm
        rw [Nat.add_assoc, e1] at this
        rw [add_none]
        exact this
    · intro u hu
      obtain ⟨y, hy, hu2⟩ := List.mem_flatMap.1 hu
      exact h1 y hy u hu2
    · intro v' w' h2 h3 _
      refine h v' w' ?_ h3
      unfold OwnR
      rw [List.length_append, List.flatMap_append]
      exact h2
end

/-- How a slice of records among the arguments reads, opened, where each record's cells are known of its own reading. -/
theorem open_recsQ {α : Type} {Q : α → Prop} {n : Nat} {cv : α → List Value} {H : Type} {enc : TypeId × Value → H} {P : Program} {W : World} {b0 : Nat} {sp : Nat → Bool} {hd : Bool} {t e : TypeId} {a : Option Addr} {len cap : Nat} {d : DataW H} {ps : List MemPlace}
    (hu : P.underlying t = some (.slice e)) (hce : P.cellsOf e = n) (hn : 0 < n) (hel : ∀ (fuel : Nat) (cs : List Value) (x : DataW H × List MemPlace), DataW.trod enc P W b0 sp hd fuel e cs = some x → ∃ r : α, cs = cv r ∧ Q r)
    (h : DataW.Trod enc P W b0 sp hd t (.slice a len cap) d ps) :
    ∃ xs : List α, len = xs.length ∧ len ≤ maxLen ∧ len ≤ cap ∧ cap ≤ maxLen ∧ (a = none → cap = 0) ∧ (∀ ad, a = some ad → 0 < len → ad.spot = none) ∧ RRow n cv W a xs ∧ ∀ r ∈ xs, Q r := by
  obtain ⟨fuel, hf⟩ := h
  rcases DataW.trod_slice hu hf with ⟨hcs, _⟩ | ⟨x, l, c, elems, rest, m, _, hcs, _, hb, hlc, hm, hlen, hat, _, _⟩
  · simp [Value.cells] at hcs
    obtain ⟨rfl, rfl, rfl⟩ := hcs
    exact ⟨[], rfl, by unfold maxLen; omega, Nat.le_refl _, by unfold maxLen; omega, fun _ => rfl, fun ad h => (by cases h), Or.inl rfl, fun r h => by simp at h⟩
  · simp [Value.cells] at hcs
    obtain ⟨rfl, rfl, rfl⟩ := hcs
    rw [hce] at hat
    have hex : ∀ i, i < len → ∃ r : α, W.cells? b0 (x.add (i * n)) n = some (cv r) ∧ Q r := by
      intro i hi
      have h1 := hat i hi
      rw [List.getElem?_eq_getElem (by omega), Option.bind_eq_some_iff] at h1
      obtain ⟨cs, h2, h3⟩ := h1
      obtain ⟨r, rfl, hq⟩ := hel _ _ _ h3
      exact ⟨r, h2, hq⟩
    have hls : ∀ k, k ≤ len → ∃ xs : List α, xs.length = k ∧ ∀ (i : Nat) (r : α), xs[i]? = some r → W.cells? b0 (x.add (i * n)) n = some (cv r) ∧ Q r := by
      intro k
      induction k with
      | zero => exact fun _ => ⟨[], rfl, fun i r h => by simp at h⟩
      | succ k ih =>
        intro hk
        obtain ⟨xs, h1, h2⟩ := ih (by omega)
        obtain ⟨r, hr⟩ := hex k (by omega)
        refine ⟨xs ++ [r], by simp [h1], fun i q hq => ?_⟩
        by_cases hi : i < xs.length
        · rw [List.getElem?_append_left hi] at hq; exact h2 i q hq
        · rw [List.getElem?_append_right (by omega)] at hq
          by_cases he : i - xs.length = 0
          · rw [he] at hq
            simp at hq
            subst hq
            rw [show i = k by omega]
            exact hr
          · rw [List.getElem?_eq_none (by simp; omega)] at hq
            cases hq
    obtain ⟨xs, hx1, hx2⟩ := hls len (Nat.le_refl _)
    have hspot : 0 < len → x.spot = none := by
      intro h0
      obtain ⟨r, hr, _⟩ := hex 0 h0
      have hc := World.cells?_some hr
      have h1 := hc.2.2 0 hn
      have hlt : 0 < (cv r).length := by have := hc.2.1; omega
      rw [List.getElem?_eq_getElem hlt] at h1
      have h2 := World.cell?_spot h1
      obtain ⟨bb, oo, ss⟩ := x
      cases ss with
      | none => rfl
      | some q => simp [Addr.add] at h2
    refine ⟨xs, hx1.symm, by omega, hlc, hm, fun hno => (by cases hno), fun ad had h0 => (by cases had; exact hspot h0), ?_, fun r hr => (by obtain ⟨i, hi⟩ := List.getElem?_of_mem hr; exact (hx2 i r hi).2)⟩
    by_cases h0 : len = 0
    · exact Or.inl (List.length_eq_zero_iff.1 (by omega))
    · obtain ⟨b, off, spot⟩ := x
      have hs : spot = none := hspot (by omega)
      subst hs
      refine Or.inr ⟨b, off, rfl, fun k r hr j v hv => ?_⟩
      have hc := World.cells?_some (hx2 k r hr).1
      have hj : j < n := by have := (List.getElem?_eq_some_iff.1 hv).1; have := hc.2.1; omega
      have h1 := hc.2.2 j hj
      rw [add_none, add_none, hv] at h1
      exact h1
theorem open_recs {α : Type} {n : Nat} {cv : α → List Value} {H : Type} {enc : TypeId × Value → H} {P : Program} {W : World} {b0 : Nat} {sp : Nat → Bool} {hd : Bool} {t e : TypeId} {a : Option Addr} {len cap : Nat} {d : DataW H} {ps : List MemPlace}
    (hu : P.underlying t = some (.slice e)) (hce : P.cellsOf e = n) (hn : 0 < n) (hel : ∀ (fuel : Nat) (cs : List Value) (x : DataW H × List MemPlace), DataW.trod enc P W b0 sp hd fuel e cs = some x → ∃ r : α, cs = cv r)
    (h : DataW.Trod enc P W b0 sp hd t (.slice a len cap) d ps) :
    ∃ xs : List α, len = xs.length ∧ len ≤ maxLen ∧ len ≤ cap ∧ cap ≤ maxLen ∧ (a = none → cap = 0) ∧ (∀ ad, a = some ad → 0 < len → ad.spot = none) ∧ RRow n cv W a xs := by
  obtain ⟨xs, h1, h2, h3, h4, h5, h6, h7, _⟩ := open_recsQ (Q := fun _ => True) hu hce hn (fun f cs x hx => by obtain ⟨r, hr⟩ := hel f cs x hx; exact ⟨r, hr, trivial⟩) h
  exact ⟨xs, h1, h2, h3, h4, h5, h6, h7⟩
end Go.Proofs.YtidnjnhmkhekeaaDoor.M
namespace Go.Proofs.YtidnjnhmkhekeaaDoor.Bank
open Go.ChangeShapes Go.WideShapes Go.ChangeAt Go.RowKit
open Go.Proofs.YtidnjnhmkhekeaaDoor.M Go.Proofs.YtidnjnhmkhekeaaDoor.Measure
set_option linter.unusedVariables false

theorem bad_any (xs : List Int) (w : World) : Any.Tells 84 #[] (fun x => !isM x) xs w := by
  intro W x _ hb
  show Calls Tryd.prog 84 #[.int .i64 x] W _
  go_enter Tryd.func84, Tryd.ntmps84
  go_wp2_with (go_at_call 27; refine (is_any _ _).mono ?_; rintro e w' ⟨rfl, rfl⟩)
  go_ret
  exact ⟨by cases isM x <;> rfl, hb⟩

set_option maxHeartbeats 1000000 in
theorem check_any (xs : List Int) (c : Array Value) (w : World) (hc : c = bankC xs) (hl : xs.length = 8) :
    Calls Tryd.prog 57 #[.agg c] w fun e w' => e = .returned (errV 77 (bankE xs)) ∧ Below w.heap.size w w' := by
  have HC := hide hc
  have HL := hide hl
  have e11 : ∀ args w, (callFunc 84 args).run Tryd.prog w = .ok (.enter 84 args) w := enters_of Tryd.func84 (by kernel_rfl) rfl
  clear hc hl
  go_enter Tryd.func57, Tryd.ntmps57
  go_wp2_with (fail)
  refine (Any.contains_any _ xs 8 8 _ #[] _ _ (HL.out).symm (by omega) (bank_row (t := 38) (fr := (0, 0)) (by rw [← HC.out]; exact heap_alloc_new w _)) e11 (bad_any xs _)).mono ?_
  rintro e w1 ⟨rfl, hb⟩
  have HB := hide (((Below.refl _ w).alloc (Nat.le_refl _) (.cells c 38)).trans (hb.mono (by simp)))
  clear hb
  rw [any_bad]
  cases ho : okAll xs with
  | true =>
    have E := hide (bankE_ok ho)
    go_wp2
    go_ret
    exact ⟨by rw [E.out]; rfl, HB.out⟩
  | false =>
    have E := hide (bankE_bad ho)
    go_wp2
    go_ret
    exact ⟨by rw [E.out]; rfl, HB.out⟩

theorem isMask_any (n : Int) (w : World) :
    Calls Tryd.prog 65 #[.int .i64 n] w fun e w' => e = .returned (.bool (isMask n)) ∧ w' = w := by
  by_cases h0 : 0 ≤ n
  · by_cases h1 : n ≤ 255
    · rw [isMask_iff.2 ⟨h0, h1⟩]
      go_enter Tryd.func65, Tryd.ntmps65
      go_wp2
      go_ret
      exact ⟨rfl, rfl⟩
    · rw [isMask_false.2 (by omega)]
      go_enter Tryd.func65, Tryd.ntmps65
      go_wp2
      go_ret
      exact ⟨rfl, rfl⟩
  · rw [isMask_false.2 (by omega)]
    go_enter Tryd.func65, Tryd.ntmps65
    go_wp2
    go_ret
    exact ⟨rfl, rfl⟩

theorem isRegister_any (n : Int) (w : World) :
    Calls Tryd.prog 72 #[.int .i64 n] w fun e w' => e = .returned (.bool (isReg n)) ∧ w' = w := by
  by_cases h0 : 0 ≤ n
  · by_cases h1 : n < 8
    · rw [isReg_iff.2 ⟨h0, h1⟩]
      go_enter Tryd.func72, Tryd.ntmps72
      go_wp2
      go_ret
      exact ⟨rfl, rfl⟩
    · rw [isReg_false.2 (by omega)]
      go_enter Tryd.func72, Tryd.ntmps72
      go_wp2
      go_ret
      exact ⟨rfl, rfl⟩
  · rw [isReg_false.2 (by omega)]
    go_enter Tryd.func72, Tryd.ntmps72
    go_wp2
    go_ret
    exact ⟨rfl, rfl⟩

theorem info_int : (Tryd.prog.info? 3).map (fun i => (i.zero, i.size, i.bytes)) = some (some (.int .i64 0), 1, 8) := by kernel_rfl

set_option maxHeartbeats 2000000 in
theorem asked_any (m : Int) (w : World) (hm0 : 0 ≤ m) (hm1 : m ≤ 255) :
    Calls Tryd.prog 66 #[.int .i64 m] w fun e w' => ∃ v, e = .returned v ∧ Own w' w.heap.size 3 v (askedL m 8) ∧ Below w.heap.size w w' := by
  go_enter Tryd.func66, Tryd.ntmps66
  go_wp2
  go_loopw [2, 3, 4] (fun v _ i wr => ∃ k : Nat, k ≤ 8 ∧ i = .int .i64 k ∧ Hid (Own wr w.heap.size 3 v (askedL m k)) ∧ Hid (Below w.heap.size w wr)) (fun _ _ i _ => 8 - (intOf i).toNat)
  case atStart => exact ⟨0, by omega, rfl, Own.nil _ _ _, Below.refl _ _⟩
  case round =>
    obtain ⟨k, hk, rfl, HO, HB⟩ := hrel
    by_cases hlt : k < 8
    · have hsz := HB.out.size
      cases hbit : bit m k with
      | true =>
        have hand := bit_yes hbit
        go_wp2_with (at_builtin; refine wpList_app rfl _ _ 48 rfl w.heap.size 3 info_int Tryd.underlying48 _ (askedL m k) rfl (HO.out.alloc _) (some ⟨wr.heap.size, 0, none⟩) 1 1 [(k : Int)] rfl rfl (fun h => by cases h) (Row.one _ _ _ (by simp)) (by have := askedL_len m k; simp; omega) (by simp; omega) ?_; intro v' w1 ho hgr)
        go_roundw
        case rel => exact ⟨k + 1, by omega, by go_num, by rw [askedL_hit hbit]; exact ho, (HB.out.alloc hsz _).grown hgr (by simp; omega) (fun k hk => HO.out.block k hk)⟩
        case measure => simp [intOf]; omega
      | false =>
        have hand := bit_no hbit
        go_wp2
        go_roundw
        case rel => exact ⟨k + 1, by omega, by go_num, by rw [askedL_miss hbit]; exact HO, HB⟩
        case measure => simp [intOf]; omega
    · go_wp2
      go_ret
      have : k = 8 := by omega
      subst this
      exact ⟨_, rfl, HO.out, HB.out⟩
end Go.Proofs.YtidnjnhmkhekeaaDoor.Bank
namespace Go.Proofs.YtidnjnhmkhekeaaDoor.Bank
open Go.ChangeShapes Go.WideShapes Go.ChangeAt Go.RowKit
open Go.Proofs.YtidnjnhmkhekeaaDoor.M Go.Proofs.YtidnjnhmkhekeaaDoor.Measure
set_option linter.unusedVariables false

theorem info_bank : (Tryd.prog.info? 38).map (·.size) = some 8 := by kernel_rfl
/-- A bank out of its block. -/
theorem load_bank {w : World} {b : Nat} {c : Array Value} {fr : Nat × Nat} (h : w.heap[b]? = some (.cells c 38 fr)) (hs : c.size = 8) : (loadVar 38 ⟨b, 0, none⟩).run Tryd.prog w = .ok (.agg c) w :=
  run_loadVar_row w b _ _ c fr _ h Tryd.underlying38 rfl (by rw [info_bank, hs])

/-- The walk's step there: the whole bank out of the block that a slot points to. -/
theorem wpl_load {w : World} {ops : Array Oper} {rest : List Oper} {o : Oper} {a : Act} {Q : Exit → Act → World → Prop} (p : Nat) (hw : Region.wanted o (yielded ops a.tmps) = true) (ho : o.op = .load 38 (.tmp p)) (b : Nat)
    (hx : a.eval (.tmp p) = .pointer (some ⟨b, 0, none⟩)) (c : Array Value) (fr : Nat × Nat) (hg : w.heap[b]? = some (.cells c 38 fr)) (hs : c.size = 8) (h : wpList Tryd.prog ops Q rest (a.put o.dst (.agg c)) w) : wpList Tryd.prog ops Q (o :: rest) a w :=
  wpList_step fun K hK => by
    simp only [hw, if_true]
    exact wp_load_row _ (.tmp p) ho b hx _ c fr _ hg Tryd.underlying38 rfl (by rw [info_bank, hs]) (hK _ _ h)
theorem heap_below {w w' : World} {B b : Nat} {o : Obj} (h : w.heap[b]? = some o) (hb : Below B w w') (hlt : b < B) : w'.heap[b]? = some o := (hb.block b hlt).trans h

set_option maxHeartbeats 2000000 in
theorem digest_any (xs : List Int) (c : Array Value) (m : Int) (w : World) (hc : c = bankC xs) (hl : xs.length = 8) :
    Calls Tryd.prog 32 #[.agg c, .int .i64 m] w fun e w' => e = .returned (.tuple #[.int .i64 (digV xs m), errV 77 (digE xs m)]) ∧ Below w.heap.size w w' := by
  have HC := hide hc
  have HL := hide hl
  have HS := hide (show c.size = 8 by rw [hc, bankC_size, hl])
  have HG := hide (heap_alloc_new w (.cells c 38))
  clear hc hl
  go_enter Tryd.func32, Tryd.ntmps32
  go_wp2_with ((with_reducible refine wpl_load 2 ?_ ?_ _ ?_ _ _ HG.out HS.out ?_); rfl; rfl; rfl)
  refine (check_any xs c _ HC.out HL.out).mono ?_
  rintro e w1 ⟨rfl, hb1⟩
  have HB1 := hide (((Below.refl _ w).alloc (Nat.le_refl _) (.cells c 38)).trans (hb1.mono (by simp)))
  have HG1 := hide (heap_below HG.out hb1 (by simp))
  clear hb1 HG
  cases ho : okAll xs with
  | false =>
    have E := hide (digE_bad (xs := xs) (m := m) (fun h => by rw [ho] at h; exact Bool.false_ne_true h.1))
    have E' := hide (digV_bad (xs := xs) (m := m) (fun h => by rw [ho] at h; exact Bool.false_ne_true h.1))
    rw [bankE_bad ho, errV_one]
    go_wp2
    go_ret2
    exact ⟨by rw [E.out, E'.out]; rfl, HB1.out⟩
  | true =>
    have HO := hide ho
    rw [bankE_ok ho, errV_zero]
    clear ho
    go_wp2_with (fail)
    refine (isMask_any m _).mono ?_
    rintro e w2 ⟨rfl, rfl⟩
    cases hm : isMask m with
    | false =>
      have E := hide (digE_bad (xs := xs) (m := m) (fun h => by rw [hm] at h; exact Bool.false_ne_true h.2))
      have E' := hide (digV_bad (xs := xs) (m := m) (fun h => by rw [hm] at h; exact Bool.false_ne_true h.2))
      go_wp2
      go_ret2
      exact ⟨by rw [E.out, E'.out]; rfl, HB1.out⟩
    | true =>
      have E := hide (digE_ok HO.out hm)
      have E' := hide (digV_ok HO.out hm)
      have hm01 := isMask_iff.1 hm
      obtain ⟨hm0, hm1⟩ := hm01
      go_wp2_with (fail)
      refine (asked_any m _ hm0 hm1).mono ?_
      rintro e w3 ⟨v, rfl, hown, hb3⟩
      obtain ⟨a, cap, rfl, _, hrow⟩ := hown.row
      have HROW := hide hrow
      have HB3 := hide (HB1.out.trans (hb3.mono HB1.out.size))
      have HG3 := hide (heap_below HG1.out hb3 (heap_lt HG1.out))
      have HLEN := hide (askedL_len m 8)
      clear hrow hown hb3
      go_wp2
      go_loopw [7, 9, 22] (fun v _ i wr => ∃ k : Nat, k ≤ (askedL m 8).length ∧ i = .int .i64 k ∧ Hid (Own wr w3.heap.size 3 v (pick xs ((askedL m 8).take k))) ∧ Hid (Below w3.heap.size w3 wr)) (fun _ _ i _ => (askedL m 8).length - (intOf i).toNat)
      case atStart => exact ⟨0, by omega, rfl, Own.nil _ _ _, Below.refl _ _⟩
      case round =>
        obtain ⟨k, hk, rfl, HOW, HBR⟩ := hrel
        have hsz := HBR.out.size
        by_cases hlt : k < (askedL m 8).length
        · obtain ⟨i, hi⟩ : ∃ i, (askedL m 8)[k]? = some i := ⟨_, List.getElem?_eq_getElem hlt⟩
          obtain ⟨j, hj, rfl, _⟩ := askedL_mem (List.mem_of_getElem? hi)
          obtain ⟨y, hy⟩ : ∃ y, xs[j]? = some y := ⟨_, List.getElem?_eq_getElem (by have := HL.out; omega)⟩
          have HX := hide hi
          have HY := hide hy
          have HGR := hide (heap_below HG3.out HBR.out (heap_lt HG3.out))
          have hcb : wr.cell? ⟨w.heap.size, j, none⟩ = some (.int .i64 y) := bank_cell (xs := xs) (t := 38) (fr := (0, 0)) (by rw [← HC.out]; exact HGR.out) HY.out
          have hrow : ∃ b off, a = some ⟨b, off, none⟩ ∧ wr.cell? ⟨b, off + k, none⟩ = some (.int .i64 j) := by
            rcases HROW.out.below HBR.out with h | ⟨b, off, h1, h2⟩
            · have := HX.out; rw [h] at this; simp at this
            · exact ⟨b, off, h1, h2 k j HX.out⟩
          obtain ⟨b, off, rfl, hc⟩ := hrow
          clear hi hy
          have hlen : (askedL m 8).length ≤ 8 := HLEN.out
          go_wp2_with (at_builtin; refine wpList_app rfl _ _ 48 rfl w3.heap.size 3 info_int Tryd.underlying48 _ (pick xs ((askedL m 8).take k)) rfl (HOW.out.alloc _) (some ⟨wr.heap.size, 0, none⟩) 1 1 [y] rfl rfl (fun h => by cases h) (Row.one _ _ _ (by simp)) (by rw [pick_len]; simp; omega) (by simp; omega) ?_; intro v' w5 ho hgr)
          go_roundw
          case rel => exact ⟨k + 1, by omega, by go_num, by rw [pick_take HX.out (by simpa using HY.out)]; exact ho, (HBR.out.alloc hsz _).grown hgr (by simp; omega) (fun k hk => HOW.out.block k hk)⟩
          case measure => simp [intOf]; omega
        · have htk : (askedL m 8).take k = askedL m 8 := List.take_of_length_le (by omega)
          obtain ⟨a7, cap7, rfl, _, hrow7⟩ := HOW.out.row
          rw [htk] at hrow7 ⊢
          have HR7 := hide hrow7
          have HB7 := hide (HB3.out.trans (HBR.out.mono HB3.out.size))
          clear hrow7 htk
          go_wp2_with (fail)
          refine (all_ok _ (pick xs (askedL m 8)) _ _ _ rfl (by rw [pick_len]; have := HLEN.out; omega) HR7.out (pick_ok HO.out HL.out m)).mono ?_
          rintro e w8 ⟨rfl, rfl⟩
          go_wp2
          go_ret2
          exact ⟨by rw [E.out, E'.out]; rfl, HB7.out⟩

end Go.Proofs.YtidnjnhmkhekeaaDoor.Bank
namespace Go.Proofs.YtidnjnhmkhekeaaDoor.Bank
open Go.ChangeShapes Go.WideShapes Go.ChangeAt Go.RowKit
open Go.Proofs.YtidnjnhmkhekeaaDoor.M Go.Proofs.YtidnjnhmkhekeaaDoor.Measure
set_option linter.unusedVariables false

theorem bankC_one (xs : List Int) : (bankC xs).all (·.oneCell') = true := by
  rw [Array.all_eq_true_iff_forall_mem]
  intro v hv
  simp only [bankC, List.mem_toArray, List.mem_map] at hv
  obtain ⟨_, _, rfl⟩ := hv
  rfl
/-- The walk's step where a whole bank is stored into the block that a slot points to. -/
theorem wpl_store {w : World} {ops : Array Oper} {rest : List Oper} {o : Oper} {a : Act} {Q : Exit → Act → World → Prop} (p q : Nat) (hw : Region.wanted o (yielded ops a.tmps) = true) (ho : o.op = .store 38 (.tmp p) (.tmp q)) (b : Nat)
    (hx : a.eval (.tmp p) = .pointer (some ⟨b, 0, none⟩)) (c d : Array Value) (hv : a.eval (.tmp q) = .agg d) (hg : w.heap[b]? = some (.cells c 38)) (hs : c.size = 8) (hs' : d.size = 8) (h1 : d.all (·.oneCell') = true)
    (h : wpList Tryd.prog ops Q rest (a.put o.dst undef) (w.setRow b d)) : wpList Tryd.prog ops Q (o :: rest) a w :=
  wpList_step fun K hK => by
    simp only [hw, if_true]
    unfold Oper.wp execOp
    simp only [ho, hx, hv, Instr.storeAt, Instr.sureAddr, Sem.run_bind, Sem.run_pure, Result.andThen_ok, run_storeVar_row w b _ _ c d hg (by rw [info_bank, hs']) (by rw [hs, hs']) h1]
    exact hK _ _ h
theorem results_bank {fn : Func} {p u : Tmp} (h : fn.results = #[.cell p 38, .tmp u]) (tmps : Array Value) (w : World) (b : Nat) (c : Array Value) (v : Value) (hp : tmps.getD p undef = .pointer (some ⟨b, 0, none⟩)) (hu : tmps.getD u undef = v)
    (hg : w.heap[b]? = some (.cells c 38)) (hs : c.size = 8) : (results fn tmps).run Tryd.prog w = .ok (.tuple #[.agg c, v]) w := by
  rw [results_cell_tmp h, hp, hu]
  simp [asAddr, load_bank hg hs, Result.andThen]
theorem noBank_cells : bankC noBank = #[.int .i64 0, .int .i64 0, .int .i64 0, .int .i64 0, .int .i64 0, .int .i64 0, .int .i64 0, .int .i64 0] := rfl
theorem noBank_size : (#[.int .i64 0, .int .i64 0, .int .i64 0, .int .i64 0, .int .i64 0, .int .i64 0, .int .i64 0, .int .i64 0] : Array Value).size = 8 := rfl
theorem noBank_one : (#[.int .i64 0, .int .i64 0, .int .i64 0, .int .i64 0, .int .i64 0, .int .i64 0, .int .i64 0, .int .i64 0] : Array Value).all (·.oneCell') = true := bankC_one noBank

set_option maxHeartbeats 4000000 in
theorem extend_any (xs : List Int) (c : Array Value) (i m : Int) (w : World) (hc : c = bankC xs) (hl : xs.length = 8) :
    Calls Tryd.prog 39 #[.agg c, .int .i64 i, .int .i64 m] w fun e w' => e = .returned (.tuple #[.agg (bankC (extV xs i m)), errV 77 (extE xs i m)]) ∧ Below w.heap.size w w' := by
  have HC := hide hc
  have HL := hide hl
  have HS := hide (show c.size = 8 by rw [hc, bankC_size, hl])
  have HG := hide (heap_alloc2_old w (.cells c 38) (.cells #[.int .i64 0, .int .i64 0, .int .i64 0, .int .i64 0, .int .i64 0, .int .i64 0, .int .i64 0, .int .i64 0] 38))
  have HK := hide (heap_alloc2_new w (.cells c 38) (.cells #[.int .i64 0, .int .i64 0, .int .i64 0, .int .i64 0, .int .i64 0, .int .i64 0, .int .i64 0, .int .i64 0] 38))
  have HB0 := hide (((Below.refl _ w).alloc (Nat.le_refl _) (.cells c 38)).alloc (by simp) (.cells #[.int .i64 0, .int .i64 0, .int .i64 0, .int .i64 0, .int .i64 0, .int .i64 0, .int .i64 0, .int .i64 0] 38))
  clear hc hl
  go_enter Tryd.func39, Tryd.ntmps39
  go_wp2_with ((with_reducible refine wpl_load 3 ?_ ?_ _ ?_ _ _ HG.out HS.out ?_); rfl; rfl; rfl)
  refine (check_any xs c _ HC.out HL.out).mono ?_
  rintro e w1 ⟨rfl, hb1⟩
  have HB1 := hide (HB0.out.trans (hb1.mono (by simp; omega)))
  have HG1 := hide (heap_below HG.out hb1 (heap_lt HG.out))
  have HK1 := hide (heap_below HK.out hb1 (heap_lt HK.out))
  clear hb1 HG HK HB0
  cases ho : okAll xs with
  | false =>
    have hx : extOk xs i m = false := by unfold extOk; rw [ho]; rfl
    have E := hide (extE_bad hx)
    have E' := hide (extV_bad hx)
    rw [bankE_bad ho, errV_one]
    clear ho hx
    go_wp2_with ((with_reducible refine wpl_store 6 15 ?_ ?_ _ ?_ _ _ ?_ HK1.out noBank_size noBank_size noBank_one ?_); rfl; rfl; rfl; rfl)
    refine bodyPost_ret (v := .tuple #[.agg #[.int .i64 0, .int .i64 0, .int .i64 0, .int .i64 0, .int .i64 0, .int .i64 0, .int .i64 0, .int .i64 0], .iface 77 (.int .i64 1)]) ?_ rfl ⟨?_, ?_⟩
    · exact results_bank (p := 6) (u := 7) rfl _ _ (w.heap.size + 1) _ _ rfl rfl (setRow_heap _ _ _ _ _ _ HK1.out) noBank_size
    · rw [E.out, E'.out]; rfl
    · exact below_setRow HB1.out (by omega) _
  | true =>
    rw [bankE_ok ho, errV_zero]
    go_wp2_with (fail)
    refine (isRegister_any i _).mono ?_
    rintro e w1 ⟨rfl, rfl⟩
    cases hr : isReg i with
    | false =>
      have hx : extOk xs i m = false := by unfold extOk; rw [hr, ho]; rfl
      have E := hide (extE_bad hx)
      have E' := hide (extV_bad hx)
      clear ho hx hr
      go_wp2_with ((with_reducible refine wpl_store 6 20 ?_ ?_ _ ?_ _ _ ?_ HK1.out noBank_size noBank_size noBank_one ?_); rfl; rfl; rfl; rfl)
      refine bodyPost_ret (v := .tuple #[.agg #[.int .i64 0, .int .i64 0, .int .i64 0, .int .i64 0, .int .i64 0, .int .i64 0, .int .i64 0, .int .i64 0], .iface 77 (.int .i64 1)]) ?_ rfl ⟨?_, ?_⟩
      · exact results_bank (p := 6) (u := 7) rfl _ _ (w.heap.size + 1) _ _ rfl rfl (setRow_heap _ _ _ _ _ _ HK1.out) noBank_size
      · rw [E.out, E'.out]; rfl
      · exact below_setRow HB1.out (by omega) _
    | true =>
      have hir := isReg_iff.1 hr
      obtain ⟨hi0, hi8⟩ := hir
      obtain ⟨k, rfl⟩ : ∃ k : Nat, i = k := ⟨i.toNat, by omega⟩
      have hk8 : k < 8 := by omega
      obtain ⟨x, hx⟩ : ∃ x, xs[k]? = some x := ⟨_, List.getElem?_eq_getElem (by have := HL.out; omega)⟩
      have hmx : isM x = true := okAll_at ho hx
      have hcell : w1.cell? ⟨w.heap.size, k, none⟩ = some (.int .i64 x) := bank_cell (xs := xs) (t := 38) (fr := (0, 0)) (by rw [← HC.out]; exact HG1.out) hx
      have hfr : w1.frozen? ⟨w.heap.size, k, none⟩ = false := by simp [World.frozen?, HG1.out]
      have HX := hide hx
      cases hm : isM m with
      | false =>
        have hxx : extOk xs k m = false := by unfold extOk; rw [hr, ho, hm]; rfl
        have E := hide (extE_bad hxx)
        have E' := hide (extV_bad hxx)
        have HM := hide hm
        clear ho hxx hr hm hx hmx
        go_wp2_with (fail)
        refine (two_bad x m _ (Or.inr HM.out)).mono ?_
        rintro e w2 ⟨rfl, rfl⟩
        go_wp2_with ((with_reducible refine wpl_store 6 32 ?_ ?_ _ ?_ _ _ ?_ HK1.out noBank_size noBank_size noBank_one ?_); rfl; rfl; rfl; rfl)
        refine bodyPost_ret (v := .tuple #[.agg #[.int .i64 0, .int .i64 0, .int .i64 0, .int .i64 0, .int .i64 0, .int .i64 0, .int .i64 0, .int .i64 0], .iface 77 (.int .i64 1)]) ?_ rfl ⟨?_, ?_⟩
        · exact results_bank (p := 6) (u := 7) rfl _ _ (w.heap.size + 1) _ _ rfl rfl (setRow_heap _ _ _ _ _ _ HK1.out) noBank_size
        · rw [E.out, E'.out]; rfl
        · exact below_setRow HB1.out (by omega) _
      | true =>
        have hxx : extOk xs k m = true := extOk_iff.2 ⟨ho, hr, hm⟩
        have E := hide (extE_ok hxx)
        have E' := hide (extV_ok hxx)
        have HM := hide hm
        have HMX := hide hmx
        clear ho hxx hr hm hx hmx
        have HV := hide (show bankC (xs.set (k : Int).toNat (stp 7919 (xs.getD (k : Int).toNat 0) m)) = c.setIfInBounds k (.int .i64 (stp 7919 x m)) by
          rw [HC.out, bankC_set, Int.toNat_natCast, List.getD_eq_getElem?_getD, HX.out]; rfl)
        have HG2 := hide (heap_setCell_same w1 w.heap.size k c 38 (.int .i64 (stp 7919 x m)) HG1.out)
        have HK2 := hide ((heap_setCell_other w1 ⟨w.heap.size, k, none⟩ (w.heap.size + 1) (.int .i64 (stp 7919 x m)) (by simp)).trans HK1.out)
        have HS2 := hide (show (c.setIfInBounds k (.int .i64 (stp 7919 x m))).size = 8 by rw [Array.size_setIfInBounds]; exact HS.out)
        have HB2 := hide (HB1.out.setCell (p := ⟨w.heap.size, k, none⟩) (Nat.le_refl _) (.int .i64 (stp 7919 x m)))
        have HO2 := hide (show (c.setIfInBounds k (.int .i64 (stp 7919 x m))).all (·.oneCell') = true by rw [← HV.out]; exact bankC_one _)
        go_wp2_with (fail)
        refine (two_ok x m _ HMX.out HM.out).mono ?_
        rintro e w2 ⟨rfl, rfl⟩
        go_wp2_with (first | ((with_reducible refine wpl_load 3 ?_ ?_ _ ?_ _ _ HG2.out HS2.out ?_); rfl; rfl; rfl) | ((with_reducible refine wpl_store 6 37 ?_ ?_ _ ?_ _ _ ?_ HK2.out noBank_size HS2.out HO2.out ?_); rfl; rfl; rfl; rfl))
        refine bodyPost_ret (v := .tuple #[.agg (c.setIfInBounds k (.int .i64 (stp 7919 x m))), .nilIface]) ?_ rfl ⟨?_, ?_⟩
        · exact results_bank (p := 6) (u := 7) rfl _ _ (w.heap.size + 1) _ _ rfl rfl (setRow_heap _ _ _ _ _ _ HK2.out) HS2.out
        · rw [E.out, E'.out, HV.out]; rfl
        · exact below_setRow HB2.out (by omega) _
end Go.Proofs.YtidnjnhmkhekeaaDoor.Bank
namespace Go.Proofs.YtidnjnhmkhekeaaDoor.M

theorem all_eq {xs ys : List Int} (hx : xs.length = 8) (hy : ys.length = 8) : ((List.range 8).all fun i => xs.getD i 0 == ys.getD i 0) = decide (xs = ys) := by
  by_cases h : xs = ys
  · subst h; simp
  · rw [decide_eq_false h, Bool.eq_false_iff]
    intro hall
    apply h
    rw [List.all_eq_true] at hall
    apply List.ext_getElem?
    intro i
    by_cases hi : i < 8
    · have := hall i (List.mem_range.2 hi)
      have e1 : xs[i]? = some (xs[i]'(by omega)) := List.getElem?_eq_getElem (by omega)
      have e2 : ys[i]? = some (ys[i]'(by omega)) := List.getElem?_eq_getElem (by omega)
      simp only [List.getD_eq_getElem?_getD, e1, e2, Option.getD_some, beq_iff_eq] at this
      rw [e1, e2, this]
    · rw [List.getElem?_eq_none (by omega), List.getElem?_eq_none (by omega)]
theorem asked_all : askedL 255 8 = [0, 1, 2, 3, 4, 5, 6, 7] := by decide
theorem mask_all : isMask 255 = true := by decide
theorem differ_all {xs ys : List Int} (hx : xs.length = 8) (hy : ys.length = 8) : (!differ xs ys 255) = decide (xs = ys) := by
  rw [← all_eq hx hy]
  unfold differ
  rw [asked_all]
  simp [List.range, List.range.loop, bne, Bool.not_or]
theorem differ_self (xs : List Int) (m : Int) : differ xs xs m = false := by
  unfold differ
  rw [List.any_eq_false]
  intro i _
  simp
theorem pick_same {xs ys : List Int} {m : Int} (h : differ xs ys m = false) : pick xs (askedL m 8) = pick ys (askedL m 8) := by
  unfold differ at h
  rw [List.any_eq_false] at h
  unfold pick
  apply List.map_congr_left
  intro i hi
  have := h i hi
  simpa using this
theorem extV_eq {xs : List Int} {i m k : Int} (hl : xs.length = 8) (h1 : extOk xs i m = true) (h2 : extOk xs i k = true) : decide (extV xs i m = extV xs i k) = (m == k) := by
  obtain ⟨ho, hr, hm⟩ := extOk_iff.1 h1
  obtain ⟨_, _, hk⟩ := extOk_iff.1 h2
  have hr' := isReg_iff.1 hr
  by_cases e : m = k
  · subst e; simp
  · rw [beq_false_of_ne e]
    apply decide_eq_false
    rw [extV_ok h1, extV_ok h2]
    intro he
    apply e
    have := congrArg (fun l => l[i.toNat]?) he
    simp only [List.getElem?_set_self (show i.toNat < xs.length by omega), Option.some.injEq] at this
    exact stp_inj _ _ _ _ (isM_iff.1 hm).1 (isM_iff.1 hm).2 (isM_iff.1 hk).1 (isM_iff.1 hk).2 this
theorem extV_other {xs : List Int} {i m : Int} {k : Nat} (h1 : extOk xs i m = true) (hk : (k : Int) ≠ i) : (extV xs i m)[k]? = xs[k]? := by
  obtain ⟨ho, hr, hm⟩ := extOk_iff.1 h1
  have hr' := isReg_iff.1 hr
  rw [extV_ok h1, List.getElem?_set_ne (by omega)]
theorem heap_keep {w : World} {b : Nat} {o : Obj} (h : w.heap[b]? = some o) (o' : Obj) : (w.alloc o').heap[b]? = some o := (Go.RowKit.Below.heap_alloc w o' b (heap_lt h)).trans h
end Go.Proofs.YtidnjnhmkhekeaaDoor.M

namespace Go.Proofs.YtidnjnhmkhekeaaDoor.Bank
open Go.ChangeShapes Go.WideShapes Go.ChangeAt Go.RowKit
open Go.Proofs.YtidnjnhmkhekeaaDoor.M Go.Proofs.YtidnjnhmkhekeaaDoor.Measure
set_option linter.unusedVariables false

theorem part_bank {xs : List Int} {k : Nat} {x : Int} (h : xs[k]? = some x) (w : World) : (part 3 (bankC xs) k).run Tryd.prog w = .ok (.int .i64 x) w := by
  simp [part, isAgg, run_underlying Tryd.underlying3, bankC_at h]
theorem eqItems_bank (xs ys : List Int) (hx : xs.length = 8) (hy : ys.length = 8) (d : Nat) (w : World) : ∀ is : List Nat, (∀ i ∈ is, i < 8) →
    (Op.eqItems (d + 1) 3 1 (bankC xs) (bankC ys) is).run Tryd.prog w = .ok (is.all fun i => xs.getD i 0 == ys.getD i 0) w
  | [], _ => by simp [Op.eqItems]
  | i :: is, h => by
    have hi := h i (List.mem_cons_self ..)
    have e1 : xs[i]? = some (xs[i]'(by omega)) := List.getElem?_eq_getElem (by omega)
    have e2 : ys[i]? = some (ys[i]'(by omega)) := List.getElem?_eq_getElem (by omega)
    have ih := eqItems_bank xs ys hx hy d w is (fun j hj => h j (List.mem_cons_of_mem _ hj))
    simp only [Op.eqItems, Sem.run_bind, Nat.mul_one, part_bank e1, part_bank e2, Result.andThen_ok, run_equalIn_int w d 3 .i64 .i64 _ _ Tryd.underlying3]
    simp only [List.all_cons, List.getD_eq_getElem?_getD, e1, e2, Option.getD_some]
    cases hq : (xs[i]'(by omega) == ys[i]'(by omega)) with
    | true => simpa [List.getD_eq_getElem?_getD] using ih
    | false => simp
theorem eq_bank {xs ys : List Int} (hx : xs.length = 8) (hy : ys.length = 8) (w : World) :
    (Op.equalIn 10000 38 (.agg (bankC xs)) (.agg (bankC ys))).run Tryd.prog w = .ok (decide (xs = ys)) w := by
  obtain ⟨i, hi, _⟩ := info_parts info_int
  have hc : Tryd.prog.cellsOf 3 = 1 := by kernel_rfl
  rw [run_equalIn_array w 9999 _ _ Tryd.underlying38 hi, hc, eqItems_bank xs ys hx hy 9998 w _ (fun i hi => List.mem_range.1 hi), all_eq hx hy]

/-- The walk's step where a whole bank is stored into the block that was laid last. -/
theorem wpl_store_new {w : World} {ops : Array Oper} {rest : List Oper} {o : Oper} {a : Act} {Q : Exit → Act → World → Prop} (p q : Nat) (c d : Array Value) (hw : Region.wanted o (yielded ops a.tmps) = true) (ho : o.op = .store 38 (.tmp p) (.tmp q))
    (hx : a.eval (.tmp p) = .pointer (some ⟨w.heap.size, 0, none⟩)) (hv : a.eval (.tmp q) = .agg d) (hs : c.size = 8) (hs' : d.size = 8) (h1 : d.all (·.oneCell') = true)
    (h : wpList Tryd.prog ops Q rest (a.put o.dst undef) (w.alloc (.cells d 38))) : wpList Tryd.prog ops Q (o :: rest) a (w.alloc (.cells c 38)) :=
  wpl_store p q hw ho _ hx c d hv (heap_alloc_new w _) hs hs' h1 (by rw [World.setRow_alloc_new]; exact h)
end Go.Proofs.YtidnjnhmkhekeaaDoor.Bank
namespace Go.Proofs.YtidnjnhmkhekeaaDoor.Open
open Go.ChangeShapes Go.WideShapes Go.ChangeAt Go.RowKit
open Go.Proofs.YtidnjnhmkhekeaaDoor.M

theorem ints {H : Type} {enc : TypeId × Value → H} {P : Program} {W : World} {b0 : Nat} {hd : Bool} {t e : TypeId} {a : Option Addr} {len cap : Nat} {d : DataW H} {ps : List MemPlace}
    (hu : P.underlying t = some (.slice e)) (he : P.underlying e = some (.int .i64)) (hce : P.cellsOf e = 1) (h : DataW.Trod enc P W b0 (fun _ => true) hd t (.slice a len cap) d ps) :
    ∃ xs : List Int, len = xs.length ∧ len ≤ maxLen ∧ (a = none → cap = 0) ∧ Row W a xs := by
  obtain ⟨fuel, hf⟩ := h
  rcases open_ints hu he hce hf with ⟨hcs, _⟩ | ⟨x, l, c, zs, hcs, _, hl, hm, hz, _, hcell, _⟩
  · simp [Value.cells] at hcs
    obtain ⟨rfl, rfl, rfl⟩ := hcs
    exact ⟨[], rfl, by unfold maxLen; omega, fun _ => rfl, Or.inl rfl⟩
  · simp [Value.cells] at hcs
    obtain ⟨rfl, rfl, rfl⟩ := hcs
    have hz' : zs.length = cap := by simpa using hz
    refine ⟨zs.take len, by simp; omega, by omega, fun hno => (by cases hno), ?_⟩
    obtain ⟨b, off, spot⟩ := x
    by_cases h0 : len = 0
    · left; simp [h0]
    · have hc := hcell 0 (by omega)
      have hspot : spot = none := by simpa [Addr.add] using World.cell?_spot hc
      subst hspot
      refine Or.inr ⟨b, off, rfl, fun k x hx => ?_⟩
      rw [List.getElem?_take] at hx
      split at hx
      · have hk := (List.getElem?_eq_some_iff.1 hx).1
        have hc := hcell k hk
        rw [add_none] at hc
        rw [hc, List.getD_eq_getElem?_getD, hx]
        rfl
      · cases hx

theorem array {H : Type} {enc : TypeId × Value → H} {P : Program} {W : World} {b0 base : Nat} {sp : Nat → Bool} {hd : Bool} {t e : TypeId} {n : Nat} {v : Value} {d : DataW H} {ps : List MemPlace}
    (hu : P.underlying t = some (.array n e)) (he : P.underlying e = some (.int .i64)) (hce : P.cellsOf e = 1) (hct : P.cellsOf t = n) (hv : Value.okWide P W .any base t v) (h : DataW.Trod enc P W b0 sp hd t v d ps) :
    ∃ xs : List Int, v = .agg (bankC xs) ∧ xs.length = n := by
  obtain ⟨cs, rfl, hsz, _⟩ : ∃ cs, v = .agg cs ∧ cs.size = P.cellsOf t ∧ Row.okWide P W .any base t cs := by
    simpa [Value.okWide, hu] using hv
  rw [hct] at hsz
  obtain ⟨fuel, hf⟩ := h
  obtain ⟨ys, m, _, _, _, hl, hy⟩ := DataW.trod_array hu hf
  have hat : ∀ i, i < n → ∃ z : Int, cs[i]? = some (.int .i64 z) := by
    intro i hi
    have h1 := hy i hi
    rw [hce, Nat.mul_one, List.getElem?_eq_getElem (by omega)] at h1
    obtain ⟨z, e1, _, _⟩ := DataW.trod_int he h1
    refine ⟨z, ?_⟩
    have e2 : (Value.agg cs).cells.toList[i]? = some (.int .i64 z) := by
      have := congrArg (fun l => l[0]?) e1
      simpa using this
    simpa [Value.cells] using e2
  refine ⟨cs.toList.map fun v => match v with | .int _ z => z | _ => 0, ?_, by simp [hsz]⟩
  congr 1
  unfold bankC
  apply Array.ext'
  apply List.ext_getElem?
  intro i
  by_cases hi : i < n
  · obtain ⟨z, hz⟩ := hat i hi
    simp [hz]
  · rw [List.getElem?_eq_none (by simp; omega), List.getElem?_eq_none (by simp; omega)]
end Go.Proofs.YtidnjnhmkhekeaaDoor.Open
namespace Go.Proofs.YtidnjnhmkhekeaaDoor.M
open Go.RowKit

/-- Is a byte a letter from a to z? -/
def letB (b : UInt8) : Bool := decide (97 ≤ b.toNat ∧ b.toNat ≤ 122)
/-- Is a text of letters alone? -/
def letS (s : ByteArray) : Bool := s.data.toList.all letB
/-- A rune that is no letter. -/
def offR (r : Nat) : Bool := decide (r < 97) || decide (122 < r)
theorem offR_let (b : UInt8) : offR b.toNat = !letB b := by
  unfold offR letB
  by_cases h1 : b.toNat < 97
  · have : ¬ (97 ≤ b.toNat ∧ b.toNat ≤ 122) := by omega
    simp [h1, this]
  · by_cases h2 : 122 < b.toNat
    · have : ¬ (97 ≤ b.toNat ∧ b.toNat ≤ 122) := by omega
      simp [h1, h2, this]
    · have : 97 ≤ b.toNat ∧ b.toNat ≤ 122 := by omega
      simp [h1, h2, this]
theorem decodeN_high (n b0 b1 b2 b3 : Nat) (h : 128 ≤ b0) : 128 ≤ (Lib.decodeN n b0 b1 b2 b3).1 := by
  unfold Lib.decodeN
  rw [if_neg (by omega)]
  repeat' split
  all_goals (simp only []; omega)
theorem get_at {s : ByteArray} {i : Nat} {b : UInt8} (h : s.data.toList[i]? = some b) : s.get! i = b := by
  obtain ⟨d⟩ := s
  simp only [ByteArray.get!]
  rw [Array.getElem?_toList] at h
  simp [getElem!_def, h]
theorem decode_low {s : ByteArray} {i : Nat} {b : UInt8} (h : s.data.toList[i]? = some b) (hb : b.toNat < 128) : Utf8.decode s i = (b.toNat, 1) := by
  rw [Lib.decode_at, get_at h]
  unfold Lib.decodeN
  rw [if_pos hb]
theorem decode_high {s : ByteArray} {i : Nat} {b : UInt8} (h : s.data.toList[i]? = some b) (hb : ¬ b.toNat < 128) : 128 ≤ (Utf8.decode s i).1 := by
  rw [Lib.decode_at, get_at h]
  exact decodeN_high _ _ _ _ _ (by omega)
theorem len_size (s : ByteArray) : s.data.toList.length = s.size := Array.length_toList
theorem idx_from (s : ByteArray) : ∀ (f pos : Nat), s.size ≤ pos + f → decide (0 ≤ Lib.idxFuncFrom offR true s f pos) = !(s.data.toList.drop pos).all letB
  | 0, pos, h => by
    have e : s.data.toList.drop pos = [] := by
      apply List.drop_eq_nil_of_le
      have := len_size s
      omega
    rw [e]
    simp [Lib.idxFuncFrom]
  | f + 1, pos, h => by
    have hl := len_size s
    unfold Lib.idxFuncFrom
    by_cases hp : pos < s.size
    · obtain ⟨b, hb⟩ : ∃ b, s.data.toList[pos]? = some b := ⟨s.data.toList[pos]'(by omega), List.getElem?_eq_getElem (by omega)⟩
      have hd : s.data.toList.drop pos = b :: s.data.toList.drop (pos + 1) := by
        rw [List.drop_eq_getElem_cons (by omega)]
        congr 1
        rw [List.getElem?_eq_getElem (by omega)] at hb
        exact Option.some.inj hb
      rw [if_pos hp, hd, List.all_cons]
      by_cases h128 : b.toNat < 128
      · rw [decode_low hb h128]
        simp only []
        rw [offR_let]
        cases hB : letB b with
        | false => simp
        | true =>
          have := idx_from s f (pos + 1) (by omega)
          simp only [Bool.not_true, Bool.false_eq_true, if_false, Bool.true_and]
          exact this
      · have hh := decode_high hb h128
        have ho : offR (Utf8.decode s pos).1 = true := by unfold offR; simp; omega
        have hB : letB b = false := by unfold letB; simp; omega
        rw [if_pos ho, hB]
        simp
    · rw [if_neg hp]
      have e : s.data.toList.drop pos = [] := List.drop_eq_nil_of_le (by omega)
      rw [e]
      simp
theorem idx_letters (s : ByteArray) : decide (0 ≤ Lib.idxFunc offR true s) = !letS s := by
  unfold Lib.idxFunc letS
  rw [idx_from s s.size 0 (by omega), List.drop_zero]

/-- What is wrong with an image: the number of the error, 0 for none. -/
def imgE (nm : ByteArray) (v : Int) (cd : ByteArray) : Int :=
  if nm.size = 0 ∨ letS nm = false ∨ letS cd = false then 3 else if 8 < nm.size ∨ 8 < cd.size then 4 else if v < 1 ∨ 1000 < v then 1 else 0
theorem imgE_shape {nm cd : ByteArray} {v : Int} (h : nm.size = 0 ∨ letS nm = false ∨ letS cd = false) : imgE nm v cd = 3 := by unfold imgE; rw [if_pos h]
theorem imgE_full {nm cd : ByteArray} {v : Int} (h : ¬ nm.size = 0) (ha : letS nm = true) (hb : letS cd = true) (hf : 8 < nm.size ∨ 8 < cd.size) : imgE nm v cd = 4 := by
  unfold imgE; rw [if_neg (by simp [h, ha, hb]), if_pos hf]
theorem imgE_range {nm cd : ByteArray} {v : Int} (h : ¬ nm.size = 0) (ha : letS nm = true) (hb : letS cd = true) (hf : ¬ (8 < nm.size ∨ 8 < cd.size)) (hr : v < 1 ∨ 1000 < v) : imgE nm v cd = 1 := by
  unfold imgE; rw [if_neg (by simp [h, ha, hb]), if_neg hf, if_pos hr]
theorem imgE_none {nm cd : ByteArray} {v : Int} (h : ¬ nm.size = 0) (ha : letS nm = true) (hb : letS cd = true) (hf : ¬ (8 < nm.size ∨ 8 < cd.size)) (hr : ¬ (v < 1 ∨ 1000 < v)) : imgE nm v cd = 0 := by
  unfold imgE; rw [if_neg (by simp [h, ha, hb]), if_neg hf, if_neg hr]
theorem imgE_zero {nm cd : ByteArray} {v : Int} (h : imgE nm v cd = 0) : nm.size ≠ 0 ∧ letS nm = true ∧ letS cd = true ∧ nm.size ≤ 8 ∧ cd.size ≤ 8 ∧ 1 ≤ v ∧ v ≤ 1000 := by
  unfold imgE at h
  split at h
  · cases h
  · rename_i h1
    split at h
    · cases h
    · rename_i h2
      split at h
      · cases h
      · rename_i h3
        refine ⟨fun e => h1 (Or.inl e), ?_, ?_, by omega, by omega, by omega, by omega⟩
        · cases e : letS nm with
          | true => rfl
          | false => exact absurd (Or.inr (Or.inl e)) h1
        · cases e : letS cd with
          | true => rfl
          | false => exact absurd (Or.inr (Or.inr e)) h1
/-- The cells of an image. -/
def imgC (nm : ByteArray) (v : Int) (cd : ByteArray) : Array Value := #[.string nm, .int .i64 v, .string cd]
/-- An image that was laid in a block of its own. -/
theorem img_cells {w : World} {b : Nat} {nm cd : ByteArray} {v : Int} {t : TypeId} {fr : Nat × Nat} (h : w.heap[b]? = some (.cells (imgC nm v cd) t fr)) :
    w.cell? ⟨b, 0, none⟩ = some (.string nm) ∧ w.cell? ⟨b, 1, none⟩ = some (.int .i64 v) ∧ w.cell? ⟨b, 2, none⟩ = some (.string cd) := by
  refine ⟨?_, ?_, ?_⟩ <;> rw [cell_of_row w b _ _ t fr h] <;> rfl
/-- A version is from 1 to 1000. -/
def verB (v : Int) : Bool := decide (1 ≤ v ∧ v ≤ 1000)
theorem verB_is {v : Int} (h1 : 1 ≤ v) (h2 : v ≤ 1000) : verB v = true := decide_eq_true ⟨h1, h2⟩
theorem verB_not {v : Int} (h : v < 1 ∨ 1000 < v) : verB v = false := decide_eq_false (by omega)
theorem verB_yes {v : Int} (h : verB v = true) : 1 ≤ v ∧ v ≤ 1000 := of_decide_eq_true h
theorem verB_no {v : Int} (h : verB v = false) : v < 1 ∨ 1000 < v := by
  have := of_decide_eq_false h
  omega
end Go.Proofs.YtidnjnhmkhekeaaDoor.M
namespace Go.Proofs
open Go.Shelf
def Tryd.lays171_ren : Go.Shelf.Ren := ⟨fun | 171 => 98 | 243 => 106 | 246 => 109 | 283 => 111 | 284 => 112 | 285 => 113 | 286 => 114 | 129 => 117 | 317 => 116 | 318 => 118 | 319 => 119 | 320 => 120 | 337 => 121 | 338 => 122 | n => n, fun | 3 => 3 | 9 => 9 | 2 => 2 | 4 => 4 | 171 => 180 | 0 => 0 | 53 => 181 | 37 => 174 | 5 => 5 | 173 => 184 | 212 => 188 | 51 => 189 | 20 => 20 | 213 => 190 | 46 => 191 | 232 => 194 | 233 => 195 | n => n, fun | 17 => 1 | 18 => 2 | 19 => 3 | n => n⟩
theorem Tryd.lays171 : Go.Proofs.LaysM.n171 Tryd.prog Tryd.lays171_ren := {
  mixed := by kernel_rfl
  f129 := Tryd.func117.trans (congrArg some (by kernel_rfl))
  f171 := Tryd.func98.trans (congrArg some (by kernel_rfl))
  f243 := Tryd.func106.trans (congrArg some (by kernel_rfl))
  f246 := Tryd.func109.trans (congrArg some (by kernel_rfl))
  f283 := Tryd.func111.trans (congrArg some (by kernel_rfl))
  f284 := Tryd.func112.trans (congrArg some (by kernel_rfl))
  f285 := Tryd.func113.trans (congrArg some (by kernel_rfl))
  f286 := Tryd.func114.trans (congrArg some (by kernel_rfl))
  f317 := Tryd.func116.trans (congrArg some (by kernel_rfl))
  f318 := Tryd.func118.trans (congrArg some (by kernel_rfl))
  f319 := Tryd.func119.trans (congrArg some (by kernel_rfl))
  f320 := Tryd.func120.trans (congrArg some (by kernel_rfl))
  f337 := Tryd.func121.trans (congrArg some (by kernel_rfl))
  f338 := Tryd.func122.trans (congrArg some (by kernel_rfl))
  t0 := Tryd.underlying0
  a0 := Tryd.isAgg0
  z0 := Tryd.sizeOf0
  v0 := Tryd.zeroValue0
  t2 := Tryd.underlying2
  a2 := Tryd.isAgg2
  z2 := Tryd.sizeOf2
  v2 := Tryd.zeroValue2
  t3 := Tryd.underlying3
  a3 := Tryd.isAgg3
  z3 := Tryd.sizeOf3
  v3 := Tryd.zeroValue3
  t4 := Tryd.underlying4
  a4 := Tryd.isAgg4
  z4 := Tryd.sizeOf4
  v4 := Tryd.zeroValue4
  t5 := Tryd.underlying5
  a5 := Tryd.isAgg5
  z5 := Tryd.sizeOf5
  v5 := Tryd.zeroValue5
  t9 := Tryd.underlying9
  a9 := Tryd.isAgg9
  z9 := Tryd.sizeOf9
  v9 := Tryd.zeroValue9
  t20 := Tryd.underlying20
  a20 := Tryd.isAgg20
  z20 := Tryd.sizeOf20
  v20 := Tryd.zeroValue20
  t37 := Tryd.underlying174
  a37 := Tryd.isAgg174
  z37 := Tryd.sizeOf174
  v37 := Tryd.zeroValue174
  t46 := Tryd.underlying191
  a46 := Tryd.isAgg191
  z46 := Tryd.sizeOf191
  v46 := Tryd.zeroValue191
  t51 := Tryd.underlying189
  a51 := Tryd.isAgg189
  z51 := Tryd.sizeOf189
  v51 := Tryd.zeroValue189
  t53 := Tryd.underlying181
  a53 := Tryd.isAgg181
  z53 := Tryd.sizeOf181
  v53 := Tryd.zeroValue181
  t171 := Tryd.underlying180
  a171 := Tryd.isAgg180
  z171 := Tryd.sizeOf180
  v171 := Tryd.zeroValue180
  t173 := Tryd.underlying184
  a173 := Tryd.isAgg184
  z173 := Tryd.sizeOf184
  v173 := Tryd.zeroValue184
  t212 := Tryd.underlying188
  a212 := Tryd.isAgg188
  z212 := Tryd.sizeOf188
  v212 := Tryd.zeroValue188
  t213 := Tryd.underlying190
  a213 := Tryd.isAgg190
  z213 := Tryd.sizeOf190
  t232 := Tryd.underlying194
  a232 := Tryd.isAgg194
  z232 := Tryd.sizeOf194
  v232 := Tryd.zeroValue194
  t233 := Tryd.underlying195
  a233 := Tryd.isAgg195
  z233 := Tryd.sizeOf195
  v233 := Tryd.zeroValue195
  g17 := by kernel_rfl
  g18 := by kernel_rfl
  g19 := by kernel_rfl
  i0 := by kernel_rfl
  i2 := by kernel_rfl
  i3 := by kernel_rfl
  i4 := by kernel_rfl
  i5 := by kernel_rfl
  i9 := by kernel_rfl
  i20 := by kernel_rfl
  i37 := by kernel_rfl
  i46 := by kernel_rfl
  i51 := by kernel_rfl
  i53 := by kernel_rfl
  i171 := by kernel_rfl
  i173 := by kernel_rfl
  i212 := by kernel_rfl
  i232 := by kernel_rfl
  i233 := by kernel_rfl
  m17 := by kernel_rfl
  m18 := by kernel_rfl
  m19 := by kernel_rfl }
def Tryd.lays316_ren : Go.Shelf.Ren := ⟨fun | 316 => 99 | n => n, fun | 9 => 9 | 3 => 3 | 4 => 4 | 37 => 174 | 0 => 0 | 127 => 175 | 5 => 5 | n => n, fun | n => n⟩
theorem Tryd.lays316 : Go.Proofs.LaysM.n316 Tryd.prog Tryd.lays316_ren := {
  mixed := by kernel_rfl
  f316 := Tryd.func99.trans (congrArg some (by kernel_rfl))
  t0 := Tryd.underlying0
  a0 := Tryd.isAgg0
  z0 := Tryd.sizeOf0
  v0 := Tryd.zeroValue0
  t3 := Tryd.underlying3
  a3 := Tryd.isAgg3
  z3 := Tryd.sizeOf3
  v3 := Tryd.zeroValue3
  t4 := Tryd.underlying4
  a4 := Tryd.isAgg4
  z4 := Tryd.sizeOf4
  v4 := Tryd.zeroValue4
  t9 := Tryd.underlying9
  a9 := Tryd.isAgg9
  z9 := Tryd.sizeOf9
  v9 := Tryd.zeroValue9
  t37 := Tryd.underlying174
  a37 := Tryd.isAgg174
  z37 := Tryd.sizeOf174
  v37 := Tryd.zeroValue174
  t127 := Tryd.underlying175
  a127 := Tryd.isAgg175
  z127 := Tryd.sizeOf175
  v127 := Tryd.zeroValue175
  t5 := Tryd.underlying5
  a5 := Tryd.isAgg5
  z5 := Tryd.sizeOf5
  v5 := Tryd.zeroValue5
  i0 := by kernel_rfl
  i3 := by kernel_rfl
  i4 := by kernel_rfl
  i5 := by kernel_rfl
  i9 := by kernel_rfl
  i37 := by kernel_rfl
  i127 := by kernel_rfl }
def Tryd.lays17_ren : Go.Shelf.Ren := ⟨fun | 17 => 107 | 15 => 110 | 20 => 115 | n => n, fun | 9 => 9 | 23 => 177 | 4 => 4 | 3 => 3 | 0 => 0 | 21 => 21 | n => n, fun | n => n⟩
theorem Tryd.lays17 : Go.Proofs.LaysGw.n17 Tryd.prog Tryd.lays17_ren := {
  mixed := by kernel_rfl
  f15 := Tryd.func110.trans (congrArg some (by kernel_rfl))
  f17 := Tryd.func107.trans (congrArg some (by kernel_rfl))
  f20 := Tryd.func115.trans (congrArg some (by kernel_rfl))
  t0 := Tryd.underlying0
  a0 := Tryd.isAgg0
  z0 := Tryd.sizeOf0
  v0 := Tryd.zeroValue0
  i0 := by kernel_rfl
  t3 := Tryd.underlying3
  a3 := Tryd.isAgg3
  z3 := Tryd.sizeOf3
  v3 := Tryd.zeroValue3
  i3 := by kernel_rfl
  t4 := Tryd.underlying4
  a4 := Tryd.isAgg4
  z4 := Tryd.sizeOf4
  v4 := Tryd.zeroValue4
  i4 := by kernel_rfl
  t9 := Tryd.underlying9
  a9 := Tryd.isAgg9
  z9 := Tryd.sizeOf9
  v9 := Tryd.zeroValue9
  i9 := by kernel_rfl
  t21 := Tryd.underlying21
  a21 := Tryd.isAgg21
  z21 := Tryd.sizeOf21
  v21 := Tryd.zeroValue21
  i21 := by kernel_rfl
  t23 := Tryd.underlying177
  a23 := Tryd.isAgg177
  z23 := Tryd.sizeOf177
  v23 := Tryd.zeroValue177
  i23 := by kernel_rfl }
end Go.Proofs
namespace Go.Proofs.YtidnjnhmkhekeaaDoor.Image
open Go.ChangeShapes Go.WideShapes Go.ChangeAt Go.RowKit
open Go.Proofs.YtidnjnhmkhekeaaDoor.M
set_option linter.unusedVariables false

theorem off_any (r : Nat) (w : World) : Calls Tryd.prog 108 #[.int .i32 r] w fun e w' => e = .returned (.bool (offR r)) ∧ w' = w := by
  by_cases h1 : r < 97
  · have hz : (r : Int) < 97 := by omega
    have E := hide (show offR r = true by unfold offR; simp [h1])
    clear h1
    go_enter Tryd.func108, Tryd.ntmps108
    go_wp2
    go_ret
    exact ⟨by rw [E.out]; rfl, rfl⟩
  · have hz : ¬ (r : Int) < 97 := by omega
    by_cases h2 : 122 < r
    · have hy : (122 : Int) < r := by omega
      have E := hide (show offR r = true by unfold offR; simp [h1, h2])
      clear h1 h2
      go_enter Tryd.func108, Tryd.ntmps108
      go_wp2
      go_ret
      exact ⟨by rw [E.out]; rfl, rfl⟩
    · have hy : ¬ (122 : Int) < r := by omega
      have E := hide (show offR r = false by unfold offR; simp [h1, h2])
      clear h1 h2
      go_enter Tryd.func108, Tryd.ntmps108
      go_wp2
      go_ret
      exact ⟨by rw [E.out]; rfl, rfl⟩

theorem pred (w : World) : PredAt Tryd.prog 108 #[] encR offR w := fun W r _ =>
  (off_any r W).mono fun _ _ ⟨he, hw⟩ => ⟨he, 0, hw⟩

theorem contains_any (s : ByteArray) (w : World) :
    Calls Tryd.prog 107 #[.string s, .func (.func 108) #[] #[]] w fun e w' => e = .returned (.bool (!letS s)) ∧ Below w.heap.size w w' := by
  have h := Any.strings_ContainsFunc Tryd.lays17 108 #[] (enters_of Tryd.func108 (by kernel_rfl) rfl) offR s w (pred w)
  rw [idx_letters] at h
  exact h

theorem letters_any (s : ByteArray) (w : World) :
    Calls Tryd.prog 100 #[.string s] w fun e w' => e = .returned (.bool (letS s)) ∧ Below w.heap.size w w' := by
  go_enter Tryd.func100, Tryd.ntmps100
  go_wp2_with (go_at_call 107; refine (contains_any s _).mono ?_; rintro e w' ⟨rfl, hb⟩)
  go_ret
  exact ⟨by simp, hb⟩

theorem empty_is {s : ByteArray} (h : s.size = 0) : s.toList.isEmpty = true := by
  rw [Lib.toList_data]
  have := len_size s
  cases e : s.data.toList with
  | nil => rfl
  | cons a l => rw [e, List.length_cons] at this; omega
theorem empty_not {s : ByteArray} (h : ¬ s.size = 0) : s.toList.isEmpty = false := by
  rw [Lib.toList_data]
  have := len_size s
  cases e : s.data.toList with
  | nil => rw [e, List.length_nil] at this; omega
  | cons a l => rfl

theorem version_any (v : Int) (w : World) : Calls Tryd.prog 101 #[.int .i64 v] w fun e w' => e = .returned (.bool (verB v)) ∧ w' = w := by
  by_cases h1 : 1 ≤ v
  · by_cases h2 : v ≤ 1000
    · have E := hide (verB_is h1 h2)
      go_enter Tryd.func101, Tryd.ntmps101
      go_wp2
      go_ret
      exact ⟨by rw [E.out]; rfl, rfl⟩
    · have E := hide (verB_not (v := v) (Or.inr (by omega)))
      go_enter Tryd.func101, Tryd.ntmps101
      go_wp2
      go_ret
      exact ⟨by rw [E.out]; rfl, rfl⟩
  · have E := hide (verB_not (v := v) (Or.inl (by omega)))
    go_enter Tryd.func101, Tryd.ntmps101
    go_wp2
    go_ret
    exact ⟨by rw [E.out]; rfl, rfl⟩

set_option maxHeartbeats 4000000 in
theorem check_any (nm cd : ByteArray) (v : Int) (w : World) (hn : nm.size ≤ 140737488351232) (hc : cd.size ≤ 140737488351232) :
    Calls Tryd.prog 82 #[.agg (imgC nm v cd)] w fun e w' => e = .returned (errV 77 (imgE nm v cd)) ∧ Below w.heap.size w w' := by
  have HB := hide (below_new w (.cells (imgC nm v cd) 63))
  have HG := hide (blk_new w (.cells (imgC nm v cd) 63))
  by_cases h0 : nm.size = 0
  · have E := hide (imgE_shape (nm := nm) (cd := cd) (v := v) (Or.inl h0))
    have h1 := empty_is h0
    clear h0
    unfold imgC at HB ⊢
    go_enter Tryd.func82, Tryd.ntmps82
    go_wp2
    go_ret
    exact ⟨by rw [E.out]; rfl, HB.out⟩
  · have h1 := empty_not h0
    have H0 := hide h0
    clear h0
    unfold imgC at HB HG ⊢
    go_enter Tryd.func82, Tryd.ntmps82
    go_wp2_with (fail)
    refine (letters_any nm _).mono ?_
    rintro e w1 ⟨rfl, hb1⟩
    have HB1 := hide (below_on HB.out hb1)
    have HG1 := hide (blk_below HG.out hb1)
    clear hb1 HB HG
    obtain ⟨c10, c11, c12⟩ := img_cells HG1.out
    cases ha : letS nm with
    | false =>
      have E := hide (imgE_shape (nm := nm) (cd := cd) (v := v) (Or.inr (Or.inl ha)))
      clear ha
      go_wp2
      go_ret
      exact ⟨by rw [E.out]; rfl, HB1.out⟩
    | true =>
      have HA := hide ha
      clear ha
      go_wp2_with (fail)
      refine (letters_any cd _).mono ?_
      rintro e w2 ⟨rfl, hb2⟩
      have HB2 := hide (below_on HB1.out hb2)
      have HG2 := hide (blk_below HG1.out hb2)
      clear hb2 HB1 HG1 c10 c11 c12
      obtain ⟨c20, c21, c22⟩ := img_cells HG2.out
      cases hb : letS cd with
      | false =>
        have E := hide (imgE_shape (nm := nm) (cd := cd) (v := v) (Or.inr (Or.inr hb)))
        clear hb
        go_wp2
        go_ret
        exact ⟨by rw [E.out]; rfl, HB2.out⟩
      | true =>
        have HC := hide hb
        clear hb
        by_cases h8 : 8 < nm.size
        · have E := hide (imgE_full (v := v) H0.out HA.out HC.out (Or.inl h8))
          have h8' : (8 : Int) < nm.size := by omega
          clear h8
          go_wp2
          go_ret
          exact ⟨by rw [E.out]; rfl, HB2.out⟩
        · have h8' : ¬ (8 : Int) < nm.size := by omega
          by_cases h9 : 8 < cd.size
          · have E := hide (imgE_full (v := v) H0.out HA.out HC.out (Or.inr h9))
            have h9' : (8 : Int) < cd.size := by omega
            clear h8 h9
            go_wp2
            go_ret
            exact ⟨by rw [E.out]; rfl, HB2.out⟩
          · have h9' : ¬ (8 : Int) < cd.size := by omega
            have HF := hide (show ¬ (8 < nm.size ∨ 8 < cd.size) by omega)
            clear h8 h9
            cases hv : verB v with
            | false =>
              have E := hide (imgE_range H0.out HA.out HC.out HF.out (verB_no hv))
              go_wp2_with (go_at_call 101; refine (version_any v _).mono ?_; rintro e w3 ⟨rfl, rfl⟩; rw [hv])
              go_ret
              exact ⟨by rw [E.out]; rfl, HB2.out⟩
            | true =>
              have E := hide (imgE_none (v := v) H0.out HA.out HC.out HF.out (fun hh => by have := verB_yes hv; omega))
              go_wp2_with (go_at_call 101; refine (version_any v _).mono ?_; rintro e w3 ⟨rfl, rfl⟩; rw [hv])
              go_ret
              exact ⟨by rw [E.out]; rfl, HB2.out⟩
end Go.Proofs.YtidnjnhmkhekeaaDoor.Image
namespace Go.Proofs.YtidnjnhmkhekeaaDoor.M
open Go.RowKit

theorem decFrom_ge : ∀ (l : List UInt8) (acc m : Nat), Lib.decFrom acc l = some m → acc ≤ m
  | [], acc, m, h => by simp only [Lib.decFrom, Option.some.injEq] at h; omega
  | b :: r, acc, m, h => by
    simp only [Lib.decFrom] at h
    cases hd : Lib.digitVal b with
    | none => rw [hd] at h; cases h
    | some d => rw [hd] at h; have := decFrom_ge r _ m h; omega
theorem decFrom_snoc : ∀ (l : List UInt8) (acc : Nat) (b : UInt8), Lib.decFrom acc (l ++ [b]) = (Lib.decFrom acc l).bind fun m => (Lib.digitVal b).map fun d => m * 10 + d
  | [], acc, b => by
    simp only [List.nil_append, Lib.decFrom, Option.bind_some]
    cases Lib.digitVal b <;> rfl
  | c :: r, acc, b => by
    simp only [List.cons_append, Lib.decFrom]
    cases Lib.digitVal c with
    | none => rfl
    | some d => exact decFrom_snoc r _ b
theorem digit_ofNat {d : Nat} (h : d < 10) : Lib.digitVal (UInt8.ofNat (48 + d)) = some d := by
  have e : (UInt8.ofNat (48 + d)).toNat = 48 + d := by simp; omega
  unfold Lib.digitVal
  rw [e, if_pos (by omega)]
  congr 1
  omega
theorem ofNat_digit {b : UInt8} {d : Nat} (h : Lib.digitVal b = some d) : UInt8.ofNat (48 + d) = b ∧ d < 10 := by
  obtain ⟨h1, h2, rfl⟩ := Lib.digitVal_eq h
  refine ⟨?_, by omega⟩
  rw [show 48 + (b.toNat - 48) = b.toNat by omega]
  exact UInt8.ofNat_toNat
theorem dec_small {n : Nat} (h : n < 10) : Lib.decDigits n = [UInt8.ofNat (48 + n)] := by rw [Lib.decDigits, dif_pos h]
theorem dec_big {n : Nat} (h : ¬ n < 10) : Lib.decDigits n = Lib.decDigits (n / 10) ++ [UInt8.ofNat (48 + n % 10)] := by rw [Lib.decDigits, dif_neg h]
theorem dec_ne (n : Nat) : Lib.decDigits n ≠ [] := by
  by_cases h : n < 10
  · rw [dec_small h]; simp
  · rw [dec_big h]; simp
theorem decFrom_dec : ∀ (k n : Nat), n ≤ k → Lib.decFrom 0 (Lib.decDigits n) = some n
  | k, n, hk => by
    by_cases h : n < 10
    · rw [dec_small h]
      simp only [Lib.decFrom, digit_ofNat h]
      congr 1
      omega
    · cases k with
      | zero => omega
      | succ k =>
        rw [dec_big h, decFrom_snoc, decFrom_dec k (n / 10) (by omega), Option.bind_some, digit_ofNat (Nat.mod_lt _ (by omega))]
        simp only [Option.map_some]
        congr 1
        omega
theorem head_snoc {α : Type} {l : List α} (h : l ≠ []) (b : α) : (l ++ [b]).head? = l.head? := by
  cases l with
  | nil => exact absurd rfl h
  | cons a r => rfl
theorem dec_head : ∀ (k n : Nat), n ≤ k → (Lib.decDigits n).head? = some 48 → n = 0
  | k, n, hk, hh => by
    by_cases h : n < 10
    · rw [dec_small h] at hh
      have e := Option.some.inj hh
      have e2 : (UInt8.ofNat (48 + n)).toNat = 48 := by rw [e]; rfl
      have e3 : (UInt8.ofNat (48 + n)).toNat = 48 + n := by simp; omega
      omega
    · cases k with
      | zero => omega
      | succ k =>
        rw [dec_big h, head_snoc (dec_ne _)] at hh
        have := dec_head k (n / 10) (by omega) hh
        omega
/-- A number of at most four digits, without a needless nought. -/
def numO (l : List UInt8) : Option Nat := if l = [] ∨ 4 < l.length ∨ (l.head? = some 48 ∧ 1 < l.length) then none else Lib.decFrom 0 l
theorem numO_dec {n : Nat} (h : (Lib.decDigits n).length ≤ 4) : numO (Lib.decDigits n) = some n := by
  unfold numO
  rw [if_neg, decFrom_dec n n (Nat.le_refl _)]
  intro hh
  rcases hh with hh | hh | ⟨h1, h2⟩
  · exact dec_ne n hh
  · omega
  · have := dec_head n n (Nat.le_refl _) h1
    subst this
    rw [dec_small (by omega)] at h2
    simp at h2
theorem dec_of : ∀ (k : Nat) (l : List UInt8) (n : Nat), l.length ≤ k → l ≠ [] → (l.head? = some 48 → l.length = 1) → Lib.decFrom 0 l = some n → Lib.decDigits n = l
  | 0, l, n, hk, hne, _, _ => by
    cases l with
    | nil => exact absurd rfl hne
    | cons a r => simp at hk
  | k + 1, l, n, hk, hne, hz, hd => by
    obtain ⟨r, b, rfl⟩ : ∃ r b, l = r ++ [b] := ⟨l.dropLast, l.getLast hne, (List.dropLast_concat_getLast hne).symm⟩
    rw [decFrom_snoc] at hd
    cases hr : Lib.decFrom 0 r with
    | none => rw [hr] at hd; cases hd
    | some m =>
      rw [hr, Option.bind_some] at hd
      cases hb : Lib.digitVal b with
      | none => rw [hb] at hd; cases hd
      | some d =>
        rw [hb] at hd
        have hn : m * 10 + d = n := Option.some.inj hd
        obtain ⟨eb, hd10⟩ := ofNat_digit hb
        by_cases hre : r = []
        · subst hre
          simp only [Lib.decFrom, Option.some.injEq] at hr
          subst hr
          rw [show n = d by omega, dec_small hd10, eb]
          rfl
        · have hh := head_snoc hre b
          have hr48 : r.head? ≠ some 48 := by
            intro h48
            have := hz (by rw [hh]; exact h48)
            cases r with
            | nil => exact hre rfl
            | cons a t => simp at this
          have ih := dec_of k r m (by simp at hk; omega) hre (fun h => absurd h hr48) hr
          have hm : 1 ≤ m := by
            cases r with
            | nil => exact absurd rfl hre
            | cons a t =>
              simp only [Lib.decFrom] at hr
              cases ha : Lib.digitVal a with
              | none => rw [ha] at hr; cases hr
              | some x =>
                rw [ha] at hr
                have hx := decFrom_ge t _ m hr
                obtain ⟨ea, _⟩ := ofNat_digit ha
                have : x ≠ 0 := by
                  intro h0
                  subst h0
                  apply hr48
                  rw [← ea]
                  rfl
                omega
          rw [dec_big (by omega), show n / 10 = m by omega, show n % 10 = d by omega, ih, eb]
theorem itoa_nat (n : Nat) : Lib.itoa n = Lib.decDigits n := by
  unfold Lib.itoa
  rw [if_neg (by omega)]
  rfl
theorem numO_some {l : List UInt8} {n : Nat} (h : numO l = some n) : l ≠ [] ∧ l.length ≤ 4 ∧ (l.head? = some 48 → l.length = 1) ∧ Lib.decFrom 0 l = some n := by
  unfold numO at h
  split at h
  · cases h
  · rename_i hc
    have hne : l ≠ [] := fun e => hc (Or.inl e)
    refine ⟨hne, by omega, fun h48 => ?_, h⟩
    have : ¬ 1 < l.length := fun h1 => hc (Or.inr (Or.inr ⟨h48, h1⟩))
    cases l with
    | nil => exact absurd rfl hne
    | cons a r => simp at this ⊢; exact this
theorem numO_itoa {l : List UInt8} {n : Nat} (h : numO l = some n) : Lib.itoa n = l := by
  obtain ⟨h1, h2, h3, h4⟩ := numO_some h
  rw [itoa_nat]
  exact dec_of l.length l n (Nat.le_refl _) h1 h3 h4
theorem numO_atoi {l : List UInt8} {n : Nat} (h : numO l = some n) : Lib.atoi l = some (n : Int) := by
  obtain ⟨h1, h2, h3, h4⟩ := numO_some h
  cases l with
  | nil => exact absurd rfl h1
  | cons b r =>
    have hb : ∃ d, Lib.digitVal b = some d := by
      simp only [Lib.decFrom] at h4
      cases hd : Lib.digitVal b with
      | none => rw [hd] at h4; cases h4
      | some d => exact ⟨d, rfl⟩
    obtain ⟨d, hd⟩ := hb
    obtain ⟨e1, e2, _⟩ := Lib.digitVal_eq hd
    have n45 : ¬ (b == 45) = true := by
      intro e
      have e := beq_iff_eq.1 e
      subst e
      revert e1
      decide
    have n43 : ¬ (b == 43) = true := by
      intro e
      have e := beq_iff_eq.1 e
      subst e
      revert e1
      decide
    show (if (b == 45) = true then _ else _) = _
    rw [if_neg n45, if_neg n43]
    unfold Lib.decNat
    rw [if_neg (by simp), h4]
    rfl
theorem numO_lt {l : List UInt8} {n : Nat} (h : numO l = some n) : n < 10000 := by
  obtain ⟨h1, h2, h3, h4⟩ := numO_some h
  have := Lib.decFrom_lt l 0 n h4
  have hp : 10 ^ l.length ≤ 10 ^ 4 := Nat.pow_le_pow_right (by omega) h2
  omega

/-- A text cut at its blanks; acc: what stands since the last one. -/
def cutAcc (acc : List UInt8) : List UInt8 → List (List UInt8)
  | [] => [acc]
  | b :: l => if b = 32 then acc :: cutAcc [] l else cutAcc (acc ++ [b]) l
def cutL (l : List UInt8) : List (List UInt8) := cutAcc [] l
theorem cut_none : ∀ (l acc : List UInt8), (32 : UInt8) ∉ l → cutAcc acc l = [acc ++ l]
  | [], acc, _ => by simp [cutAcc]
  | b :: l, acc, h => by
    have hb : ¬ b = 32 := fun e => h (by simp [e])
    rw [cutAcc, if_neg hb, cut_none l _ (fun hm => h (by simp [hm]))]
    simp
theorem cut_hit : ∀ (a acc r : List UInt8), (32 : UInt8) ∉ a → cutAcc acc (a ++ 32 :: r) = (acc ++ a) :: cutAcc [] r
  | [], acc, r, _ => by simp [cutAcc]
  | b :: a, acc, r, h => by
    have hb : ¬ b = 32 := fun e => h (by simp [e])
    rw [List.cons_append, cutAcc, if_neg hb, cut_hit a _ r (fun hm => h (by simp [hm]))]
    simp
theorem cut_len : ∀ (l acc : List UInt8), (cutAcc acc l).length ≤ l.length + 1 ∧ 1 ≤ (cutAcc acc l).length
  | [], acc => by simp [cutAcc]
  | b :: l, acc => by
    rw [cutAcc]
    split
    · have := cut_len l []
      simp only [List.length_cons]
      omega
    · have := cut_len l (acc ++ [b])
      simp only [List.length_cons]
      omega
theorem index_parts : ∀ (l : List UInt8) (c : UInt8), (Lib.indexByte l c = -1 ∧ c ∉ l) ∨ ∃ a r, l = a ++ c :: r ∧ c ∉ a ∧ Lib.indexByte l c = a.length
  | [], c => Or.inl ⟨rfl, by simp⟩
  | b :: l, c => by
    by_cases hb : b = c
    · subst hb
      exact Or.inr ⟨[], l, rfl, by simp, by simp [Lib.indexByte]⟩
    · have hbc : ¬ (b == c) = true := by simpa using hb
      rcases index_parts l c with ⟨h1, h2⟩ | ⟨a, r, rfl, h2, h3⟩
      · refine Or.inl ⟨?_, by simp [h2, Ne.symm hb]⟩
        rw [Lib.indexByte, if_neg hbc, h1]
        rfl
      · refine Or.inr ⟨b :: a, r, rfl, by simp [h2, Ne.symm hb], ?_⟩
        rw [Lib.indexByte, if_neg hbc, h3, if_neg (by simp)]
        simp
theorem split_cut : ∀ (k : Nat) (l : List UInt8), ((cutL l).length ≤ k + 1 → Lib.splitK [32] 0 k l = cutL l) ∧ (k + 1 < (cutL l).length → (Lib.splitK [32] 0 k l).length = k + 1)
  | 0, l => by
    rcases index_parts l 32 with ⟨h1, h2⟩ | ⟨a, r, rfl, h2, h3⟩
    · have e := cut_none l [] h2
      unfold cutL
      rw [e]
      simp [Lib.splitK]
    · have e := cut_hit a [] r h2
      have := cut_len r []
      unfold cutL
      rw [e]
      simp only [List.length_cons]
      exact ⟨fun h => by omega, fun _ => rfl⟩
  | k + 1, l => by
    rcases index_parts l 32 with ⟨h1, h2⟩ | ⟨a, r, rfl, h2, h3⟩
    · have e := cut_none l [] h2
      unfold cutL
      rw [e, Lib.splitK, Lib.index_one, h1, if_pos (by decide)]
      simp
    · have e := cut_hit a [] r h2
      obtain ⟨i1, i2⟩ := split_cut k r
      unfold cutL at i1 i2 ⊢
      rw [e, Lib.splitK, Lib.index_one, h3, if_neg (by simp)]
      have e1 : (a ++ 32 :: r).take (((a.length : Nat) : Int).toNat + 0) = a := by simp
      have e2 : (a ++ 32 :: r).drop (((a.length : Nat) : Int).toNat + [(32 : UInt8)].length) = r := by
        rw [show ((a.length : Nat) : Int).toNat + [(32 : UInt8)].length = a.length + 1 by simp, ← List.drop_drop]
        simp
      rw [e1, e2]
      simp only [List.length_cons, List.nil_append]
      exact ⟨fun h => by rw [i1 (by omega)], fun h => by rw [i2 (by omega)]⟩
/-- What strings.SplitN gives: all parts, or four where there are more. -/
def spcB : ByteArray := { data := #[32] }
def partsB (s : ByteArray) : List ByteArray := Lib.splitB spcB 0 (min 4 (s.size + 1) - 1) s
theorem parts_cut (s : ByteArray) : (partsB s).map (fun x => x.data.toList) = cutL s.data.toList ∨ ((partsB s).length = 4 ∧ 4 < (cutL s.data.toList).length) := by
  have hd := Lib.splitB_data spcB 0 (min 4 (s.size + 1) - 1) s
  have hb : spcB.data.toList = [32] := rfl
  rw [hb] at hd
  have hl := len_size s
  have hc := cut_len s.data.toList []
  obtain ⟨i1, i2⟩ := split_cut (min 4 (s.size + 1) - 1) s.data.toList
  by_cases h : (cutL s.data.toList).length ≤ min 4 (s.size + 1) - 1 + 1
  · left
    rw [← i1 h]
    exact hd
  · right
    have h4 := i2 (by omega)
    rw [← hd, List.length_map] at h4
    unfold cutL at h ⊢
    have e : min 4 (s.size + 1) = 4 := by omega
    rw [e] at h
    refine ⟨?_, by omega⟩
    have : (partsB s).length = min 4 (s.size + 1) - 1 + 1 := h4
    omega
end Go.Proofs.YtidnjnhmkhekeaaDoor.M
namespace Go.Proofs.YtidnjnhmkhekeaaDoor.Image
open Go.ChangeShapes Go.WideShapes Go.ChangeAt Go.RowKit
open Go.Proofs.YtidnjnhmkhekeaaDoor.M
set_option linter.unusedVariables false

/-- The table of powers of ten is there. -/
def Has (w : World) : Prop :=
  (1 < w.heap.size ∧ ∀ nm : String, Tryd.prog.globalNamed nm = some 1 → w.var? Tryd.prog nm = some (Lib.pow10Tab.map fun z => Value.int .u64 z).toArray) ∧ True
/-- It stays. -/
theorem Has.below {w w' : World} (h : Has w) (hb : Below w.heap.size w w') : Has w' := by
  obtain ⟨⟨h1, h2⟩, _⟩ := h
  exact ⟨⟨Nat.lt_of_lt_of_le h1 hb.size, fun nm hg => var?_below hb hg h1 (h2 nm hg)⟩, trivial⟩
theorem itoa_any (n : Int) (w : World) (h0 : -9223372036854775808 ≤ n) (h1 : n ≤ 9223372036854775807) (hh : Has w) :
    Calls Tryd.prog 98 #[.int .i64 n] w fun e w' => e = .returned (.string { data := (Lib.itoa n).toArray }) ∧ Below w.heap.size w w' :=
  (Any.strconv_Itoa Tryd.lays171 n h0 h1 w (hh.1.2 _ (by kernel_rfl))).mono fun _ _ ⟨he, k, os, hw⟩ => ⟨he, by
    rw [hw]
    exact ⟨rfl, rfl, rfl, by show w.heap.size ≤ (w.heap ++ os).size; rw [Array.size_append]; omega, fun j hj => by show (w.heap ++ os)[j]? = w.heap[j]?; rw [Array.getElem?_append_left hj]⟩⟩
theorem clone_any (s : ByteArray) (w : World) (hl : s.size ≤ 140737488351232) :
    Calls Tryd.prog 81 #[.string s] w fun e w' => e = .returned (.string s) ∧ Below w.heap.size w w' := by
  go_enter Tryd.func81, Tryd.ntmps81
  go_wp2_with (go_at_call 99; refine (Any.stringslite_Clone Tryd.lays316 s _ ?_).mono ?_; omega; rintro e w' ⟨rfl, hb⟩)
  go_ret
  exact ⟨rfl, hb⟩
end Go.Proofs.YtidnjnhmkhekeaaDoor.Image
namespace Go.Proofs.YtidnjnhmkhekeaaDoor.M
/-- An image as text. -/
def lineB (nm : ByteArray) (v : Int) (cd : ByteArray) : ByteArray := nm ++ spcB ++ { data := (Lib.itoa v).toArray } ++ spcB ++ cd
def lineV (nm : ByteArray) (v : Int) (cd : ByteArray) : ByteArray := if imgE nm v cd = 0 then lineB nm v cd else { data := #[] }
theorem lineV_ok {nm cd : ByteArray} {v : Int} (h : imgE nm v cd = 0) : lineV nm v cd = lineB nm v cd := by unfold lineV; rw [if_pos h]
theorem lineV_bad {nm cd : ByteArray} {v : Int} (h : ¬ imgE nm v cd = 0) : lineV nm v cd = { data := #[] } := by unfold lineV; rw [if_neg h]
/-- The measure of an image. -/
def meaV (nm : ByteArray) (v : Int) (cd : ByteArray) : Int := if imgE nm v cd = 0 then ofFrom 1 (lineB nm v cd).data.toList else 0
theorem meaV_ok {nm cd : ByteArray} {v : Int} (h : imgE nm v cd = 0) : meaV nm v cd = ofFrom 1 (lineB nm v cd).data.toList := by unfold meaV; rw [if_pos h]
theorem meaV_bad {nm cd : ByteArray} {v : Int} (h : ¬ imgE nm v cd = 0) : meaV nm v cd = 0 := by unfold meaV; rw [if_neg h]
/-- Which of two is newer: the fault, and the answer. -/
def newE (nm : ByteArray) (v : Int) (cd : ByteArray) (nm' : ByteArray) (v' : Int) (cd' : ByteArray) : Int :=
  if imgE nm v cd = 0 then (if imgE nm' v' cd' = 0 then (if nm = nm' then 0 else 3) else imgE nm' v' cd') else imgE nm v cd
def newV (nm : ByteArray) (v : Int) (cd : ByteArray) (nm' : ByteArray) (v' : Int) (cd' : ByteArray) : Bool := decide (newE nm v cd nm' v' cd' = 0) && decide (v' < v)
section
variable {nm cd nm' cd' : ByteArray} {v v' : Int}
theorem newE_ok (h : imgE nm v cd = 0) (h' : imgE nm' v' cd' = 0) (hq : nm = nm') : newE nm v cd nm' v' cd' = 0 := by unfold newE; rw [if_pos h, if_pos h', if_pos hq]
theorem newE_name (h : imgE nm v cd = 0) (h' : imgE nm' v' cd' = 0) (hq : ¬ nm = nm') : newE nm v cd nm' v' cd' = 3 := by unfold newE; rw [if_pos h, if_pos h', if_neg hq]
theorem newE_second (h : imgE nm v cd = 0) (h' : ¬ imgE nm' v' cd' = 0) : newE nm v cd nm' v' cd' = imgE nm' v' cd' := by unfold newE; rw [if_pos h, if_neg h']
theorem newE_first (h : ¬ imgE nm v cd = 0) : newE nm v cd nm' v' cd' = imgE nm v cd := by unfold newE; rw [if_neg h]
theorem newV_ok (h : newE nm v cd nm' v' cd' = 0) : newV nm v cd nm' v' cd' = decide (v' < v) := by unfold newV; rw [decide_eq_true h]; rfl
theorem newV_bad (h : ¬ newE nm v cd nm' v' cd' = 0) : newV nm v cd nm' v' cd' = false := by unfold newV; rw [decide_eq_false h]; rfl
end
theorem blk_two (w : World) (o o' : Obj) : ((w.alloc o).alloc o').heap[w.heap.size + 1]? = some o' := by
  have := blk_new (w.alloc o) o'
  simpa using this
theorem dec_len : ∀ (k n : Nat), n < 10 ^ (k + 1) → (Lib.decDigits n).length ≤ k + 1
  | k, n, h => by
    by_cases h10 : n < 10
    · rw [dec_small h10]; simp
    · cases k with
      | zero => omega
      | succ k =>
        rw [dec_big h10, List.length_append]
        have := dec_len k (n / 10) (by rw [Nat.pow_succ] at h; omega)
        simp only [List.length_cons, List.length_nil]
        omega
theorem itoa_four {v : Int} (h1 : 1 ≤ v) (h2 : v ≤ 1000) : ({ data := (Lib.itoa v).toArray } : ByteArray).size ≤ 4 := by
  obtain ⟨n, rfl⟩ : ∃ n : Nat, v = n := ⟨v.toNat, by omega⟩
  rw [itoa_nat]
  have := dec_len 3 n (by omega)
  show (Lib.decDigits n).toArray.size ≤ 4
  simpa using this
end Go.Proofs.YtidnjnhmkhekeaaDoor.M
namespace Go.Proofs.YtidnjnhmkhekeaaDoor.Image
open Go.ChangeShapes Go.WideShapes Go.ChangeAt Go.RowKit
open Go.Proofs.YtidnjnhmkhekeaaDoor.M
set_option linter.unusedVariables false

theorem byte_ext {s t : ByteArray} (h : s.data.toList = t.data.toList) : s = t := by
  cases s; cases t
  congr 1
  exact Array.ext' h
theorem str_ne {s t : ByteArray} (h : ¬ s = t) : (s.toList == t.toList) = false := by
  rw [Lib.toList_data, Lib.toList_data]
  apply beq_eq_false_iff_ne.2
  exact fun e => h (byte_ext e)
theorem str_eq {s t : ByteArray} (h : s = t) : (s.toList == t.toList) = true := by
  subst h
  simp
theorem errV_ne {T : TypeId} {k : Int} (h : ¬ k = 0) : errV T k = .iface T (.int .i64 k) := by unfold errV; rw [if_neg h]

set_option maxHeartbeats 4000000 in
theorem print_any (nm cd : ByteArray) (v : Int) (w : World) (hn : nm.size ≤ 140737488351232) (hc : cd.size ≤ 140737488351232) (hh : Has w) :
    Calls Tryd.prog 79 #[.agg (imgC nm v cd)] w fun e w' => e = .returned (.tuple #[.string (lineV nm v cd), errV 77 (imgE nm v cd)]) ∧ Below w.heap.size w w' := by
  have HB := hide (below_new w (.cells (imgC nm v cd) 63))
  have HG := hide (blk_new w (.cells (imgC nm v cd) 63))
  have HH := hide hh
  clear hh
  unfold imgC at HB HG ⊢
  go_enter Tryd.func79, Tryd.ntmps79
  go_wp2_with (fail)
  refine (check_any nm cd v _ hn hc).mono ?_
  rintro e w1 ⟨rfl, hb1⟩
  have HB1 := hide (below_on HB.out hb1)
  have HG1 := hide (blk_below HG.out hb1)
  clear hb1 HB HG
  obtain ⟨c0, c1, c2⟩ := img_cells HG1.out
  by_cases hE : imgE nm v cd = 0
  · have HL := hide (lineV_ok hE)
    have HE := hide hE
    obtain ⟨z1, z2, z3, z4, z5, z6, z7⟩ := imgE_zero hE
    rw [hE, errV_zero]
    clear hE z1 z2 z3
    have HW := hide (HH.out.below HB1.out)
    have HI : Hid (∀ W, Has W → Calls Tryd.prog 98 #[.int .i64 v] W fun e w' => e = .returned (.string { data := (Lib.itoa v).toArray }) ∧ Below W.heap.size W w') := fun W hW => itoa_any v W (by omega) (by omega) hW
    have hD := itoa_four z6 z7
    rw [show lineB nm v cd = nm ++ spcB ++ { data := (Lib.itoa v).toArray } ++ spcB ++ cd from rfl] at HL
    generalize hDe : ({ data := (Lib.itoa v).toArray } : ByteArray) = D at hD HL HI
    clear hDe z6 z7
    have q1 : ¬ 9223372036854775807 < nm.size + 1 := by omega
    have q2 : ¬ 9223372036854775807 < nm.size + 1 + D.size := by omega
    have q3 : ¬ 9223372036854775807 < nm.size + 1 + D.size + 1 := by omega
    have q4 : ¬ 9223372036854775807 < nm.size + 1 + D.size + 1 + cd.size := by omega
    go_wp2_with (fail)
    go_region_held3 (fun w' => w'.cell? ⟨w.heap.size, 0, none⟩ = some (.string nm) ∧ w'.cell? ⟨w.heap.size, 1, none⟩ = some (.int .i64 v) ∧ w'.cell? ⟨w.heap.size, 2, none⟩ = some (.string cd)) (go_keep)
      (first | (go_at_call 98; refine (HI.out w1.drew (HW.out.below (Below.drew (Below.refl _ _)))).mono ?_; rintro e w2 ⟨rfl, hb2⟩; have HB2 := hide (below_on (w1 := w1.drew) (Below.drew HB1.out) hb2); have HG2 := blk_below (w := w1.drew) HG1.out hb2; clear hb2; obtain ⟨d0, d1, d2⟩ := img_cells HG2; clear HG2))
    go_wp2
    go_ret2
    exact ⟨by rw [HL.out, HE.out]; rfl, HB2.out⟩
  · have HL := hide (lineV_bad hE)
    have HX := hide (errV_ne (T := 77) hE)
    rw [errV_ne hE]
    clear hE
    go_wp2
    go_ret2
    exact ⟨by rw [HL.out, HX.out]; rfl, HB1.out⟩

theorem line_size (nm cd : ByteArray) (v : Int) (h : imgE nm v cd = 0) : (lineB nm v cd).size ≤ 22 := by
  obtain ⟨z1, z2, z3, z4, z5, z6, z7⟩ := imgE_zero h
  have hD := itoa_four z6 z7
  unfold lineB
  generalize ({ data := (Lib.itoa v).toArray } : ByteArray) = D at hD ⊢
  have hs : spcB.size = 1 := rfl
  rw [ByteArray.size_append, ByteArray.size_append, ByteArray.size_append, ByteArray.size_append, hs]
  omega

set_option maxHeartbeats 4000000 in
theorem measure_any (nm cd : ByteArray) (v : Int) (w : World) (hn : nm.size ≤ 140737488351232) (hc : cd.size ≤ 140737488351232) (hh : Has w) :
    Calls Tryd.prog 53 #[.agg (imgC nm v cd)] w fun e w' => e = .returned (.tuple #[.int .i64 (meaV nm v cd), errV 77 (imgE nm v cd)]) ∧ Below w.heap.size w w' := by
  have HB := hide (below_new w (.cells (imgC nm v cd) 63))
  have HH := hide (hh.below HB.out)
  clear hh
  unfold imgC at HB HH ⊢
  go_enter Tryd.func53, Tryd.ntmps53
  go_wp2_with (fail)
  refine (print_any nm cd v _ hn hc HH.out).mono ?_
  rintro e w1 ⟨rfl, hb1⟩
  have HB1 := hide (below_on HB.out hb1)
  clear hb1 HB
  by_cases hE : imgE nm v cd = 0
  · have HM := hide (meaV_ok hE)
    have HE := hide hE
    rw [lineV_ok hE, hE, errV_zero]
    have hs := line_size nm cd v hE
    clear hE
    go_wp2_with (fail)
    refine (Measure.of_ok _ _ (by omega)).mono ?_
    rintro e w2 ⟨rfl, rfl⟩
    go_wp2
    go_ret2
    exact ⟨by rw [HM.out, HE.out]; rfl, HB1.out⟩
  · have HM := hide (meaV_bad hE)
    have HX := hide (errV_ne (T := 77) hE)
    rw [lineV_bad hE, errV_ne hE]
    clear hE
    go_wp2
    go_ret2
    exact ⟨by rw [HM.out, HX.out]; rfl, HB1.out⟩

end Go.Proofs.YtidnjnhmkhekeaaDoor.Image
namespace Go.Proofs.YtidnjnhmkhekeaaDoor.Image
open Go.ChangeShapes Go.WideShapes Go.ChangeAt Go.RowKit
open Go.Proofs.YtidnjnhmkhekeaaDoor.M
set_option linter.unusedVariables false

theorem info_img : (Tryd.prog.info? 63).map (·.size) = some 3 := by kernel_rfl
/-- An image out of its block. -/
theorem load_img {w : World} {b : Nat} {c : Array Value} {fr : Nat × Nat} (h : w.heap[b]? = some (.cells c 63 fr)) (hs : c.size = 3) : (loadVar 63 ⟨b, 0, none⟩).run Tryd.prog w = .ok (.agg c) w :=
  run_loadVar_row w b _ _ c fr _ h Tryd.underlying63 rfl (by rw [info_img, hs])
theorem three_set {w : World} {b : Nat} {a0 a1 a2 x y z : Value} {t : TypeId} {fr : Nat × Nat} (hg : w.heap[b]? = some (.cells #[a0, a1, a2] t fr)) :
    ((w.setCell ⟨b, 0, none⟩ x).setCell ⟨b, 1, none⟩ y).setCell ⟨b, 2, none⟩ z = w.setRow b #[x, y, z] := by
  rw [setCell_eq_setRow w b 0 _ _ _ x hg]
  have h1 := setRow_heap w b _ (#[a0, a1, a2].setIfInBounds 0 x) t fr hg
  rw [setCell_eq_setRow _ b 1 _ _ _ y h1, setRow_setRow]
  have h2 := setRow_heap w b _ ((#[a0, a1, a2].setIfInBounds 0 x).setIfInBounds 1 y) t fr hg
  rw [setCell_eq_setRow _ b 2 _ _ _ z h2, setRow_setRow]
  rfl
theorem img_free {w : World} {b : Nat} {c : Array Value} {t : TypeId} (h : w.heap[b]? = some (.cells c t)) :
    w.frozen? ⟨b, 0, none⟩ = false ∧ w.frozen? ⟨b, 1, none⟩ = false ∧ w.frozen? ⟨b, 2, none⟩ = false := ⟨frozen_of_row w b 0 _ _ h, frozen_of_row w b 1 _ _ h, frozen_of_row w b 2 _ _ h⟩
theorem res_alone {fn : Func} {p : Tmp} {ty : TypeId} (h : fn.results = #[.cell p ty]) (tmps : Array Value) (P : Program) (w : World) :
    (results fn tmps).run P w = ((asAddr (tmps.getD p undef)).run P w).andThen fun a w1 => (loadVar ty a).run P w1 := by
  simp only [results, h]
  simp [Sem.run_bind, Result.andThen]
theorem results_imgOne {fn : Func} {p : Tmp} (h : fn.results = #[.cell p 63]) (tmps : Array Value) (w : World) (b : Nat) (c : Array Value) (hp : tmps.getD p undef = .pointer (some ⟨b, 0, none⟩))
    (hg : w.heap[b]? = some (.cells c 63)) (hs : c.size = 3) : (results fn tmps).run Tryd.prog w = .ok (.agg c) w := by
  rw [res_alone h, hp]
  simp [asAddr, load_img hg hs, Result.andThen]

/-- What lies in a cell, whatever it is. -/
def cellAt (w : World) (b i : Nat) : Value := (w.cell? ⟨b, i, none⟩).getD undef
theorem cellAt_of {w : World} {b i : Nat} {v : Value} (h : w.cell? ⟨b, i, none⟩ = some v) : w.cell? ⟨b, i, none⟩ = some (cellAt w b i) := by unfold cellAt; rw [h]; rfl
/-- Where the image lies that came in, where the answer will lie, and that all else is as it was. -/
def InvC (w0 : World) (P R : Nat) (nm : ByteArray) (v : Int) (cd : ByteArray) (W : World) : Prop :=
  Below w0.heap.size w0 W ∧ (w0.heap.size ≤ P ∧ w0.heap.size ≤ R ∧ P ≠ R) ∧ W.heap[P]? = some (.cells #[.string nm, .int .i64 v, .string cd] 63) ∧ ∃ x y z, W.heap[R]? = some (.cells #[x, y, z] 63)
section
variable {w0 W W' : World} {P R : Nat} {nm cd : ByteArray} {v : Int}
theorem invC_S (h : InvC w0 P R nm v cd W) : W.cell? ⟨P, 0, none⟩ = some (.string nm) ∧ W.cell? ⟨P, 1, none⟩ = some (.int .i64 v) ∧ W.cell? ⟨P, 2, none⟩ = some (.string cd)
    ∧ W.frozen? ⟨R, 0, none⟩ = false ∧ W.frozen? ⟨R, 1, none⟩ = false ∧ W.frozen? ⟨R, 2, none⟩ = false
    ∧ W.cell? ⟨R, 0, none⟩ = some (cellAt W R 0) ∧ W.cell? ⟨R, 1, none⟩ = some (cellAt W R 1) ∧ W.cell? ⟨R, 2, none⟩ = some (cellAt W R 2) ∧ InvC w0 P R nm v cd W := by
  have h' := h
  obtain ⟨h1, h2, h3, x, y, z, h4⟩ := h
  obtain ⟨c0, c1, c2⟩ := img_cells (nm := nm) (v := v) (cd := cd) h3
  obtain ⟨f0, f1, f2⟩ := img_free h4
  exact ⟨c0, c1, c2, f0, f1, f2, cellAt_of (v := x) (by rw [cell_of_row W R _ _ _ _ h4]; rfl), cellAt_of (v := y) (by rw [cell_of_row W R _ _ _ _ h4]; rfl), cellAt_of (v := z) (by rw [cell_of_row W R _ _ _ _ h4]; rfl), h'⟩
theorem invC_drew (h : InvC w0 P R nm v cd W) : InvC w0 P R nm v cd W.drew := ⟨Below.drew h.1, h.2⟩
theorem invC_below (h : InvC w0 P R nm v cd W) (hb : Below W.heap.size W W') : InvC w0 P R nm v cd W' := by
  obtain ⟨h1, h2, h3, x, y, z, h4⟩ := h
  exact ⟨below_on h1 hb, h2, blk_below h3 hb, x, y, z, blk_below h4 hb⟩
theorem invC_set (h : InvC w0 P R nm v cd W) (i : Nat) (u : Value) : InvC w0 P R nm v cd (W.setCell ⟨R, i, none⟩ u) := by
  obtain ⟨h1, h2, h3, x, y, z, h4⟩ := h
  rw [setCell_eq_setRow W R i _ _ _ u h4]
  refine ⟨below_setRow h1 h2.2.1 _, h2, by rw [setRow_other _ _ _ _ h2.2.2]; exact h3, ?_⟩
  have h5 := setRow_heap _ _ _ (#[x, y, z].setIfInBounds i u) _ _ h4
  match i with
  | 0 => exact ⟨u, y, z, h5⟩
  | 1 => exact ⟨x, u, z, h5⟩
  | 2 => exact ⟨x, y, u, h5⟩
  | i + 3 => exact ⟨x, y, z, h5⟩
theorem invC_put (h : InvC w0 P R nm v cd W) (a b c : Value) : (((W.setCell ⟨R, 0, none⟩ a).setCell ⟨R, 1, none⟩ b).setCell ⟨R, 2, none⟩ c).heap[R]? = some (.cells #[a, b, c] 63) ∧ Below w0.heap.size w0 (((W.setCell ⟨R, 0, none⟩ a).setCell ⟨R, 1, none⟩ b).setCell ⟨R, 2, none⟩ c) := by
  obtain ⟨h1, h2, h3, x, y, z, h4⟩ := h
  rw [three_set h4]
  exact ⟨setRow_heap _ _ _ _ _ _ h4, below_setRow h1 h2.2.1 _⟩
end

set_option maxHeartbeats 4000000 in
theorem clones_any (nm cd : ByteArray) (v : Int) (w : World) (hn : nm.size ≤ 140737488351232) (hc : cd.size ≤ 140737488351232) :
    Calls Tryd.prog 54 #[.agg (imgC nm v cd)] w fun e w' => e = .returned (.agg (imgC nm v cd)) ∧ Below w.heap.size w w' := by
  have hI : InvC w w.heap.size (w.heap.size + 1) nm v cd ((w.alloc (.cells (imgC nm v cd) 63)).alloc (.cells (imgC { data := #[] } 0 { data := #[] }) 63)) :=
    ⟨below_on (below_new w _) (below_new _ _), ⟨Nat.le_refl _, by omega, by omega⟩, blk_keep (blk_new w _) _, _, _, _, blk_two w _ _⟩
  unfold imgC at hI ⊢
  obtain ⟨m0, m1, m2, f0, f1, f2, r0, r1, r2, _⟩ := invC_S hI
  go_enter Tryd.func54, Tryd.ntmps54
  go_wp2_with (fail)
  go_region_held3 (fun w' => w'.cell? ⟨w.heap.size, 0, none⟩ = some (.string nm) ∧ w'.cell? ⟨w.heap.size, 1, none⟩ = some (.int .i64 v) ∧ w'.cell? ⟨w.heap.size, 2, none⟩ = some (.string cd)
    ∧ w'.frozen? ⟨w.heap.size + 1, 0, none⟩ = false ∧ w'.frozen? ⟨w.heap.size + 1, 1, none⟩ = false ∧ w'.frozen? ⟨w.heap.size + 1, 2, none⟩ = false
    ∧ w'.cell? ⟨w.heap.size + 1, 0, none⟩ = some (cellAt w' (w.heap.size + 1) 0) ∧ w'.cell? ⟨w.heap.size + 1, 1, none⟩ = some (cellAt w' (w.heap.size + 1) 1) ∧ w'.cell? ⟨w.heap.size + 1, 2, none⟩ = some (cellAt w' (w.heap.size + 1) 2) ∧ InvC w w.heap.size (w.heap.size + 1) nm v cd w')
    (exact invC_S (by repeat (first | assumption | apply invC_drew | apply invC_set)))
    (first | (go_at_call 81; refine (clone_any _ _ ?_).mono ?_; omega; rintro e w5 ⟨rfl, hb5⟩; have hI5 : InvC w w.heap.size (w.heap.size + 1) nm v cd w5 := invC_below (by repeat (first | assumption | apply invC_drew | apply invC_set)) hb5; clear hb5; obtain ⟨m50, m51, m52, f50, f51, f52, r50, r51, r52, _⟩ := invC_S hI5))
  all_goals
    go_wp2
    refine bodyPost_ret (v := .agg #[.string nm, .int .i64 v, .string cd]) ?_ rfl ⟨rfl, ?_⟩
    · exact results_imgOne (p := 2) rfl _ _ (w.heap.size + 1) _ rfl (invC_put (by repeat (first | assumption | apply invC_drew | apply invC_set)) _ _ _).1 rfl
    · exact (invC_put (by repeat (first | assumption | apply invC_drew | apply invC_set)) _ _ _).2
end Go.Proofs.YtidnjnhmkhekeaaDoor.Image
namespace Go.Proofs.YtidnjnhmkhekeaaDoor.M

/-- A number to a power, modulo the group. -/
def pw (a n : Nat) : Nat := a ^ n % 1543
theorem pw_lt (a n : Nat) : pw a n < 1543 := Nat.mod_lt _ (by omega)
theorem pw_zero (a : Nat) : pw a 0 = 1 := by unfold pw; rw [Nat.pow_zero]
theorem pw_one {a : Nat} (h : a < 1543) : pw a 1 = a := by unfold pw; rw [Nat.pow_one, Nat.mod_eq_of_lt h]
theorem pw_add (a m n : Nat) : pw a (m + n) = pw a m * pw a n % 1543 := by unfold pw; rw [Nat.pow_add, Nat.mul_mod]
theorem pw_succ (a n : Nat) : pw a (n + 1) = pw a n * a % 1543 := by
  rw [pw_add]
  unfold pw
  rw [Nat.pow_one]
  simp [Nat.mul_mod]
theorem pw_mul (a m n : Nat) : pw a (m * n) = pw (pw a m) n := by
  unfold pw
  rw [Nat.pow_mul]
  exact Nat.pow_mod _ _ _
theorem pw_even (a n : Nat) : pw a (2 * n) = pw a n * pw a n % 1543 := by rw [show 2 * n = n + n by omega, pw_add]
theorem pw_half_even {a n : Nat} (h : n % 2 = 0) : pw a n = pw a (n / 2) * pw a (n / 2) % 1543 := by rw [← pw_even, show 2 * (n / 2) = n by omega]
theorem pw_half_odd {a n : Nat} (h : n % 2 = 1) : pw a n = (pw a (n / 2) * pw a (n / 2) % 1543) * a % 1543 := by
  rw [← pw_even, ← pw_succ, show 2 * (n / 2) + 1 = n by omega]
/-- 64 has the order 257. -/
theorem pw_order : pw 64 257 = 1 := by decide +kernel
theorem pw_mod (n : Nat) : pw 64 (n % 257) = pw 64 n := by
  have h : pw 64 n = pw 64 (257 * (n / 257)) * pw 64 (n % 257) % 1543 := by rw [← pw_add, Nat.div_add_mod]
  have h1 : ∀ k, pw 1 k = 1 := fun k => by unfold pw; rw [Nat.one_pow]
  rw [h, pw_mul, pw_order, h1, Nat.one_mul, Nat.mod_eq_of_lt (pw_lt _ _)]
/-- The powers of 64, as far as they are unlike. -/
def pws : List Nat := (List.range 257).map (pw 64)
theorem pws_nodup : pws.Nodup := by
  have h : decide pws.Nodup = true := by decide +kernel
  exact of_decide_eq_true h
theorem pw_inj {i j : Nat} (hi : i < 257) (hj : j < 257) (h : pw 64 i = pw 64 j) : i = j := by
  have li : i < pws.length := by simp [pws]; exact hi
  have lj : j < pws.length := by simp [pws]; exact hj
  have e : pws[i] = pws[j] := by simpa [pws] using h
  exact (List.getElem_inj pws_nodup).1 e
theorem pw_iff {i j : Nat} (hi : i < 257) (hj : j < 257) : pw 64 i = pw 64 j ↔ i = j := ⟨pw_inj hi hj, fun e => by rw [e]⟩
theorem pw_pos_fin : ∀ k : Fin 257, 1 ≤ pw 64 k.val := by decide +kernel
theorem pw_pos (n : Nat) : 1 ≤ pw 64 n := by
  rw [← pw_mod]
  exact pw_pos_fin ⟨n % 257, Nat.mod_lt _ (by omega)⟩
theorem pw_ne_one {x : Nat} (h1 : 1 ≤ x) (h2 : x ≤ 256) : pw 64 x ≠ 1 := by
  intro e
  have := pw_inj (i := x) (j := 0) (by omega) (by omega) (by rw [e, pw_zero])
  omega
/-- A seal is right by its key: Schnorr. -/
theorem seal_right (k c x : Nat) : pw 64 ((k + c * x) % 257) = pw 64 k * pw (pw 64 x) c % 1543 := by
  rw [pw_mod, pw_add, Nat.mul_comm c x, pw_mul]
/-- With another answer it is not. -/
theorem seal_other {k c x other : Nat} (h : other < 257) : pw 64 other = pw 64 k * pw (pw 64 x) c % 1543 ↔ other = (k + c * x) % 257 := by
  rw [← seal_right]
  exact pw_iff h (Nat.mod_lt _ (by omega))
/-- Two seals by one number: what the challenges are apart, times the secret, is what the answers are apart. -/
theorem seal_two (k a b x : Nat) : ((((a : Int) - b + 257) * x - ((((k + a * x) % 257 : Nat) : Int) - (((k + b * x) % 257 : Nat) : Int) + 257))) % 257 = 0 := by
  have e : ((a : Int) - b + 257) * x = (a * x : Nat) - (b * x : Nat) + 257 * x := by
    rw [Int.add_mul, Int.sub_mul]
    simp [Int.natCast_mul]
  rw [e]
  generalize a * x = p
  generalize b * x = q
  omega
theorem seal_two_tmod (k a b x : Nat) : Int.tmod (((a : Int) - b + 257) * x - ((((k + a * x) % 257 : Nat) : Int) - (((k + b * x) % 257 : Nat) : Int) + 257)) 257 = 0 :=
  Int.tmod_eq_zero_of_dvd (Int.dvd_of_emod_eq_zero (seal_two k a b x))
end Go.Proofs.YtidnjnhmkhekeaaDoor.M
namespace Go.Proofs.YtidnjnhmkhekeaaDoor.M

/-- Is it a secret? Is it of the group? May it be an answer? -/
def secB (x : Int) : Bool := decide (1 ≤ x ∧ x < 257)
def inB (n : Int) : Bool := decide (1 ≤ n ∧ n < 1543)
def ansB (n : Int) : Bool := decide (0 ≤ n ∧ n < 257)
theorem secB_iff {x : Int} : secB x = true ↔ 1 ≤ x ∧ x < 257 := by unfold secB; simp
theorem secB_not {x : Int} : secB x = false ↔ ¬ (1 ≤ x ∧ x < 257) := by unfold secB; simp
theorem inB_iff {x : Int} : inB x = true ↔ 1 ≤ x ∧ x < 1543 := by unfold inB; simp
theorem inB_not {x : Int} : inB x = false ↔ ¬ (1 ≤ x ∧ x < 1543) := by unfold inB; simp
theorem ansB_iff {x : Int} : ansB x = true ↔ 0 ≤ x ∧ x < 257 := by unfold ansB; simp
theorem ansB_not {x : Int} : ansB x = false ↔ ¬ (0 ≤ x ∧ x < 257) := by unfold ansB; simp
theorem inB_isM {x : Int} (h : inB x = true) : isM x = true := isM_iff.2 (by have := inB_iff.1 h; omega)

/-- A power, of whole numbers. -/
def pwZ (a n : Int) : Int := ((pw a.toNat n.toNat : Nat) : Int)
theorem pwZ_nat (a n : Nat) : pwZ a n = (pw a n : Nat) := rfl
theorem pwZ_lo (a n : Int) : 0 ≤ pwZ a n := Int.natCast_nonneg _
theorem pwZ_hi (a n : Int) : pwZ a n < 1543 := by
  have := pw_lt a.toNat n.toNat
  unfold pwZ
  omega
theorem pwZ_in (n : Int) : inB (pwZ 64 n) = true := by
  rw [inB_iff]
  have h1 := pw_pos n.toNat
  have h2 := pw_lt 64 n.toNat
  unfold pwZ
  have e : (64 : Int).toNat = 64 := rfl
  rw [e]
  omega

/-- The challenge of a point, a key and a measure; what is wrong with it. -/
def chV (p q m : Int) : Int := allV [p, q, m] % 257
theorem chV_lo (p q m : Int) : 0 ≤ chV p q m := by unfold chV; omega
theorem chV_hi (p q m : Int) : chV p q m < 257 := by unfold chV; omega
theorem ok_three {p q m : Int} (hp : isM p = true) (hq : isM q = true) : okAll [p, q, m] = isM m := by simp [okAll, hp, hq]
theorem allC_three {p q m : Int} (hp : isM p = true) (hq : isM q = true) : allC [p, q, m] = if isM m = true then 0 else 1 := by
  unfold allC
  rw [if_neg (by simp), ok_three hp hq]
theorem allV_three {p q m : Int} (hp : isM p = true) (hq : isM q = true) (hm : isM m = true) : allV [p, q, m] = allFrom 0 [p, q, m] := by
  unfold allV
  rw [if_neg (by simp), ok_three hp hq, if_pos hm]
theorem chV_ok {p q m : Int} (hp : isM p = true) (hq : isM q = true) (hm : isM m = true) : chV p q m = allFrom 0 [p, q, m] % 257 := by
  unfold chV
  rw [allV_three hp hq hm]

/-- A public key; what is wrong. -/
def pubC (x : Int) : Int := if secB x = true then 0 else 1
def pubV (x : Int) : Int := if secB x = true then pwZ 64 x else 0
theorem pubC_ok {x : Int} (h : secB x = true) : pubC x = 0 := if_pos h
theorem pubV_ok {x : Int} (h : secB x = true) : pubV x = pwZ 64 x := if_pos h
theorem pubC_no {x : Int} (h : secB x = false) : pubC x = 1 := by unfold pubC; rw [h]; rfl
theorem pubV_no {x : Int} (h : secB x = false) : pubV x = 0 := by unfold pubV; rw [h]; rfl

/-- A seal: its challenge, what is wrong, its point, its answer. -/
def sigH (x k m : Int) : Int := chV (pwZ 64 k) (pwZ 64 x) m
def sigC (x k m : Int) : Int := if secB x = true ∧ secB k = true ∧ isM m = true then 0 else 1
def sigP (x k m : Int) : Int := if secB x = true ∧ secB k = true ∧ isM m = true then pwZ 64 k else 0
def sigA (x k m : Int) : Int := if secB x = true ∧ secB k = true ∧ isM m = true then (k + sigH x k m * x) % 257 else 0
theorem sigC_ok {x k m : Int} (hx : secB x = true) (hk : secB k = true) (hm : isM m = true) : sigC x k m = 0 := if_pos ⟨hx, hk, hm⟩
theorem sigP_ok {x k m : Int} (hx : secB x = true) (hk : secB k = true) (hm : isM m = true) : sigP x k m = pwZ 64 k := if_pos ⟨hx, hk, hm⟩
theorem sigA_ok {x k m : Int} (hx : secB x = true) (hk : secB k = true) (hm : isM m = true) : sigA x k m = (k + sigH x k m * x) % 257 := if_pos ⟨hx, hk, hm⟩
theorem sig_no {x k m : Int} (h : secB x = false ∨ secB k = false ∨ isM m = false) : sigC x k m = 1 ∧ sigP x k m = 0 ∧ sigA x k m = 0 := by
  have hn : ¬ (secB x = true ∧ secB k = true ∧ isM m = true) := by
    rintro ⟨a, b, c⟩
    rw [a, b, c] at h
    simp at h
  unfold sigC sigP sigA
  rw [if_neg hn, if_neg hn, if_neg hn]
  exact ⟨rfl, rfl, rfl⟩
theorem sigC_zero {x k m : Int} (h : sigC x k m = 0) : secB x = true ∧ secB k = true ∧ isM m = true := by
  unfold sigC at h
  split at h
  · assumption
  · cases h

/-- Is a seal right: its form, and what it says. -/
def formB (q m p a : Int) : Bool := inB q && inB p && isM m && ansB a
def saysB (q m p a : Int) : Bool := decide (pwZ 64 a = p * pwZ q (chV p q m) % 1543)
def rigC (q m p a : Int) : Int := if formB q m p a = true then (if saysB q m p a = true then 0 else 8) else 1
def chkC (q m p a : Int) : Int := if formB q m p a = true then 0 else 1
def chkB (q m p a : Int) : Bool := formB q m p a && saysB q m p a
theorem formB_iff {q m p a : Int} : formB q m p a = true ↔ inB q = true ∧ inB p = true ∧ isM m = true ∧ ansB a = true := by
  unfold formB
  simp [Bool.and_eq_true, and_assoc]
theorem form_no {q m p a : Int} (h : inB q = false ∨ inB p = false ∨ isM m = false ∨ ansB a = false) : formB q m p a = false := by
  unfold formB
  rcases h with h | h | h | h <;> rw [h] <;> simp
theorem rigC_no {q m p a : Int} (h : formB q m p a = false) : rigC q m p a = 1 := by unfold rigC; rw [h]; rfl
theorem chkC_no {q m p a : Int} (h : formB q m p a = false) : chkC q m p a = 1 := by unfold chkC; rw [h]; rfl
theorem chkB_no {q m p a : Int} (h : formB q m p a = false) : chkB q m p a = false := by unfold chkB; rw [h]; rfl
theorem chkC_ok {q m p a : Int} (h : formB q m p a = true) : chkC q m p a = 0 := by unfold chkC; rw [h]; rfl
theorem chkB_ok {q m p a : Int} (h : formB q m p a = true) : chkB q m p a = saysB q m p a := by unfold chkB; rw [h]; rfl
theorem rigC_yes {q m p a : Int} (h : formB q m p a = true) (hs : saysB q m p a = true) : rigC q m p a = 0 := by unfold rigC; rw [h, hs]; rfl
theorem rigC_else {q m p a : Int} (h : formB q m p a = true) (hs : saysB q m p a = false) : rigC q m p a = 8 := by unfold rigC; rw [h, hs]; rfl
theorem rig_chk (q m p a : Int) : (rigC q m p a = 0 ∧ chkC q m p a = 0 ∧ chkB q m p a = true) ∨ (rigC q m p a = 8 ∧ chkC q m p a = 0 ∧ chkB q m p a = false) ∨ (rigC q m p a = 1 ∧ chkC q m p a = 1 ∧ chkB q m p a = false) := by
  cases h : formB q m p a with
  | false => exact Or.inr (Or.inr ⟨rigC_no h, chkC_no h, chkB_no h⟩)
  | true =>
    cases hs : saysB q m p a with
    | true => exact Or.inl ⟨rigC_yes h hs, chkC_ok h, by rw [chkB_ok h, hs]⟩
    | false => exact Or.inr (Or.inl ⟨rigC_else h hs, chkC_ok h, by rw [chkB_ok h, hs]⟩)

/-- A seal is right by its key, and with no other answer. -/
theorem says_own {x k m other : Int} (hx : secB x = true) (hk : secB k = true) (hm : isM m = true) (ho : ansB other = true) : saysB (pwZ 64 x) m (pwZ 64 k) other = decide (other = sigA x k m) := by
  have x1 := secB_iff.1 hx
  have k1 := secB_iff.1 hk
  have o1 := ansB_iff.1 ho
  have c0 := chV_lo (pwZ 64 k) (pwZ 64 x) m
  unfold saysB
  rw [sigA_ok hx hk hm]
  unfold sigH
  generalize chV (pwZ 64 k) (pwZ 64 x) m = c at *
  obtain ⟨x, rfl⟩ : ∃ n : Nat, x = n := ⟨x.toNat, by omega⟩
  obtain ⟨k, rfl⟩ : ∃ n : Nat, k = n := ⟨k.toNat, by omega⟩
  obtain ⟨o, rfl⟩ : ∃ n : Nat, other = n := ⟨other.toNat, by omega⟩
  obtain ⟨c, rfl⟩ : ∃ n : Nat, c = n := ⟨c.toNat, by omega⟩
  have h := @seal_other k c x o (by omega)
  have e1 : pwZ 64 (o : Int) = (pw 64 o : Nat) := rfl
  have e2 : pwZ 64 (k : Int) = (pw 64 k : Nat) := rfl
  have e3 : pwZ (pwZ 64 (x : Int)) (c : Int) = (pw (pw 64 x) c : Nat) := rfl
  rw [e1, e2, e3]
  apply decide_eq_decide.2
  generalize pw 64 o = A at h ⊢
  generalize pw 64 k = B at h ⊢
  generalize pw (pw 64 x) c = C at h ⊢
  rw [← Int.natCast_mul, ← Int.natCast_mul]
  generalize B * C = D at h ⊢
  generalize c * x = E at h ⊢
  constructor
  · intro e
    have := h.1 (by omega)
    omega
  · intro e
    have := h.2 (by omega)
    omega
theorem sigA_ans {x k m : Int} : ansB (sigA x k m) = true := by
  rw [ansB_iff]
  unfold sigA
  split <;> omega
/-- Two seals by one number tell the secret. -/
theorem two_tell {x k m n : Int} (hx : secB x = true) (hk : secB k = true) (hm : isM m = true) (hn : isM n = true) :
    Int.tmod ((sigH x k m - sigH x k n + 257) * x - (sigA x k m - sigA x k n + 257)) 257 = 0 := by
  have x1 := secB_iff.1 hx
  have k1 := secB_iff.1 hk
  have c0 := chV_lo (pwZ 64 k) (pwZ 64 x) m
  have d0 := chV_lo (pwZ 64 k) (pwZ 64 x) n
  rw [sigA_ok hx hk hm, sigA_ok hx hk hn]
  unfold sigH
  generalize chV (pwZ 64 k) (pwZ 64 x) m = c at *
  generalize chV (pwZ 64 k) (pwZ 64 x) n = d at *
  obtain ⟨x, rfl⟩ : ∃ n : Nat, x = n := ⟨x.toNat, by omega⟩
  obtain ⟨k, rfl⟩ : ∃ n : Nat, k = n := ⟨k.toNat, by omega⟩
  obtain ⟨c, rfl⟩ : ∃ n : Nat, c = n := ⟨c.toNat, by omega⟩
  obtain ⟨d, rfl⟩ : ∃ n : Nat, d = n := ⟨d.toNat, by omega⟩
  exact seal_two_tmod k c d x
/-- All secrets are unlike, and so are their keys. -/
theorem keys_unlike {x y : Int} (hx : secB x = true) (hy : secB y = true) : (pwZ 64 x == pwZ 64 y) = (x == y) ∧ pwZ 64 x ≠ 1 := by
  have x1 := secB_iff.1 hx
  have y1 := secB_iff.1 hy
  obtain ⟨x, rfl⟩ : ∃ n : Nat, x = n := ⟨x.toNat, by omega⟩
  obtain ⟨y, rfl⟩ : ∃ n : Nat, y = n := ⟨y.toNat, by omega⟩
  have h := @pw_iff x y (by omega) (by omega)
  have g := @pw_ne_one x (by omega) (by omega)
  have e1 : pwZ 64 (x : Int) = (pw 64 x : Nat) := rfl
  have e2 : pwZ 64 (y : Int) = (pw 64 y : Nat) := rfl
  rw [e1, e2]
  generalize pw 64 x = A at h g ⊢
  generalize pw 64 y = B at h ⊢
  constructor
  · rw [Bool.eq_iff_iff, beq_iff_eq, beq_iff_eq]
    constructor
    · intro e
      have := h.1 (by omega)
      omega
    · intro e
      have := h.2 (by omega)
      omega
  · intro e
    exact g (by omega)
end Go.Proofs.YtidnjnhmkhekeaaDoor.M
namespace Go.Proofs.YtidnjnhmkhekeaaDoor.Key
open Go.ChangeShapes Go.WideShapes Go.ChangeAt Go.RowKit
open Go.Proofs.YtidnjnhmkhekeaaDoor.M
set_option linter.unusedVariables false

theorem ret_one {k : IntKind} {a b : Int} (h : a = b) : Ending.returned (.int k a) = .returned (.int k b) := by rw [h]

theorem ret_true {b : Bool} (h : b = true) : Ending.returned (.bool b) = .returned (.bool true) := by rw [h]

theorem secret_any (n : Int) (w : World) :
    Calls Tryd.prog 36 #[.int .i64 n] w fun e w' => e = .returned (.bool (secB n)) ∧ w' = w := by
  by_cases h0 : 1 ≤ n
  · by_cases h1 : n < 257
    · rw [secB_iff.2 ⟨h0, h1⟩]
      go_enter Tryd.func36, Tryd.ntmps36
      go_wp2
      go_ret
      exact ⟨rfl, rfl⟩
    · rw [secB_not.2 (by omega)]
      go_enter Tryd.func36, Tryd.ntmps36
      go_wp2
      go_ret
      exact ⟨rfl, rfl⟩
  · rw [secB_not.2 (by omega)]
    go_enter Tryd.func36, Tryd.ntmps36
    go_wp2
    go_ret
    exact ⟨rfl, rfl⟩

theorem public_is (n : Int) (w : World) :
    Calls Tryd.prog 26 #[.int .i64 n] w fun e w' => e = .returned (.bool (inB n)) ∧ w' = w := by
  by_cases h0 : 1 ≤ n
  · by_cases h1 : n < 1543
    · rw [inB_iff.2 ⟨h0, h1⟩]
      go_enter Tryd.func26, Tryd.ntmps26
      go_wp2
      go_ret
      exact ⟨rfl, rfl⟩
    · rw [inB_not.2 (by omega)]
      go_enter Tryd.func26, Tryd.ntmps26
      go_wp2
      go_ret
      exact ⟨rfl, rfl⟩
  · rw [inB_not.2 (by omega)]
    go_enter Tryd.func26, Tryd.ntmps26
    go_wp2
    go_ret
    exact ⟨rfl, rfl⟩

set_option maxHeartbeats 400000 in
theorem power_nat (a n : Nat) (w : World) (ha : a < 1543) (hn : n < 1000) :
    Calls Tryd.prog 37 #[.int .i64 a, .int .i64 n] w fun e w' => e = .returned (.int .i64 (pw a n : Nat)) ∧ w' = w := by
  go_enter Tryd.func37, Tryd.ntmps37
  go_wp2
  go_loop [5, 7] (fun p i => ∃ k : Nat, k ≤ n ∧ i = .int .i64 k ∧ p = .int .i64 (pw a k : Nat)) (fun _ i => n - (intOf i).toNat)
  case atStart => exact ⟨0, by omega, rfl, by rw [pw_zero]; rfl⟩
  case round =>
    obtain ⟨k, hk, rfl, rfl⟩ := hrel
    by_cases hlt : k < n
    · have hlz : (k : Int) < n := by omega
      have E := hide (pw_succ a k)
      have hq := pw_lt a k
      generalize hqe : pw a k = q at *
      have hm0 : 0 ≤ (q : Int) * a := Int.mul_nonneg (by omega) (by omega)
      have hm1 : (q : Int) * a ≤ 1543 * 1543 := Int.mul_le_mul (by omega) (by omega) (by omega) (by omega)
      go_wp2
      go_round
      case rel => exact ⟨k + 1, by omega, by go_num, by rw [E.out]; simp [Int.natCast_mul]⟩
      case measure => simp [intOf]; omega
    · have hkn : k = n := by omega
      have hlz : ¬ (k : Int) < n := by omega
      go_wp2
      go_ret
      exact ⟨rfl, rfl⟩
theorem power_any (a n : Int) (w : World) (ha0 : 0 ≤ a) (ha : a < 1543) (hn0 : 0 ≤ n) (hn : n < 1000) :
    Calls Tryd.prog 37 #[.int .i64 a, .int .i64 n] w fun e w' => e = .returned (.int .i64 (pwZ a n)) ∧ w' = w := by
  obtain ⟨a, rfl⟩ : ∃ k : Nat, a = k := ⟨a.toNat, by omega⟩
  obtain ⟨n, rfl⟩ : ∃ k : Nat, n = k := ⟨n.toNat, by omega⟩
  exact power_nat a n w (by omega) (by omega)

theorem public_ok (x : Int) (w : World) (h : secB x = true) :
    Calls Tryd.prog 12 #[.int .i64 x] w fun e w' => e = .returned (.tuple #[.int .i64 (pwZ 64 x), .nilIface]) ∧ w' = w := by
  have hr := secB_iff.1 h
  obtain ⟨h0, h1⟩ := hr
  go_enter Tryd.func12, Tryd.ntmps12
  go_wp2_with (first | (go_at_call 36; refine (secret_any _ _).mono ?_; rintro e w' ⟨rfl, rfl⟩) | (go_at_call 37; refine (power_any _ _ _ (by omega) (by omega) (by omega) (by omega)).mono ?_; rintro e w' ⟨rfl, rfl⟩))
  go_ret2
  exact ⟨rfl, rfl⟩
theorem public_no (x : Int) (w : World) (h : secB x = false) :
    Calls Tryd.prog 12 #[.int .i64 x] w fun e w' => e = .returned (.tuple #[.int .i64 0, .iface 77 (.int .i64 1)]) ∧ w' = w := by
  go_enter Tryd.func12, Tryd.ntmps12
  go_wp2_with (go_at_call 36; refine (secret_any _ _).mono ?_; rintro e w' ⟨rfl, rfl⟩)
  go_ret2
  exact ⟨rfl, rfl⟩
theorem public_any (x : Int) (w : World) :
    Calls Tryd.prog 12 #[.int .i64 x] w fun e w' => e = .returned (.tuple #[.int .i64 (pubV x), errV 77 (pubC x)]) ∧ w' = w := by
  cases h : secB x with
  | true => rw [pubV_ok h, pubC_ok h]; exact public_ok x w h
  | false => rw [pubV_no h, pubC_no h]; exact public_no x w h
end Go.Proofs.YtidnjnhmkhekeaaDoor.Key
namespace Go.Proofs.YtidnjnhmkhekeaaDoor.Key
open Go.ChangeShapes Go.WideShapes Go.ChangeAt Go.RowKit
open Go.Proofs.YtidnjnhmkhekeaaDoor.M Go.Proofs.YtidnjnhmkhekeaaDoor.Measure
set_option linter.unusedVariables false

set_option maxHeartbeats 1000000 in
theorem challenge_ok (p q m : Int) (w : World) (hp : isM p = true) (hq : isM q = true) (hm : isM m = true) :
    Calls Tryd.prog 68 #[.int .i64 p, .int .i64 q, .int .i64 m] w fun e w' => e = .returned (.tuple #[.int .i64 (chV p q m), .nilIface]) ∧ Below w.heap.size w w' := by
  have HO := hide (show okAll [p, q, m] = true by rw [ok_three hp hq, hm])
  have HC := hide (chV_ok hp hq hm)
  have hr := allFrom_range 0 [p, q, m] (by omega) (by omega)
  clear hp hq hm
  obtain ⟨r0, r1⟩ := hr
  go_enter Tryd.func68, Tryd.ntmps68
  go_wp2_with (fail)
  refine (all_ok _ [p, q, m] 3 _ _ rfl (by omega) (Row.three (blk_new _ _)) HO.out).mono ?_
  rintro e w1 ⟨rfl, rfl⟩
  generalize allFrom 0 [p, q, m] = r at *
  go_wp2
  go_ret2
  exact ⟨by rw [HC.out]; rfl, below_new _ _⟩

set_option maxHeartbeats 1000000 in
theorem challenge_no (p q m : Int) (w : World) (hp : isM p = true) (hq : isM q = true) (hm : isM m = false) :
    Calls Tryd.prog 68 #[.int .i64 p, .int .i64 q, .int .i64 m] w fun e w' => e = .returned (.tuple #[.int .i64 0, .iface 77 (.int .i64 1)]) ∧ Below w.heap.size w w' := by
  have HO := hide (show okAll [p, q, m] = false by rw [ok_three hp hq, hm])
  clear hp hq hm
  go_enter Tryd.func68, Tryd.ntmps68
  go_wp2_with (fail)
  refine (all_bad _ [p, q, m] 3 _ _ rfl (by omega) (Row.three (blk_new _ _)) HO.out).mono ?_
  rintro e w1 ⟨rfl, rfl⟩
  go_wp2
  go_ret2
  exact ⟨rfl, below_new _ _⟩

theorem info_seal : (Tryd.prog.info? 32).map (·.size) = some 2 := by kernel_rfl
/-- A seal out of its block. -/
theorem load_seal {w : World} {b : Nat} {c : Array Value} {fr : Nat × Nat} (h : w.heap[b]? = some (.cells c 32 fr)) (hs : c.size = 2) : (loadVar 32 ⟨b, 0, none⟩).run Tryd.prog w = .ok (.agg c) w :=
  run_loadVar_row w b _ _ c fr _ h Tryd.underlying32 rfl (by rw [info_seal, hs])
theorem results_seal {fn : Func} {p u : Tmp} (h : fn.results = #[.cell p 32, .tmp u]) (tmps : Array Value) (w : World) (b : Nat) (c : Array Value) (v : Value) (hp : tmps.getD p undef = .pointer (some ⟨b, 0, none⟩)) (hu : tmps.getD u undef = v)
    (hg : w.heap[b]? = some (.cells c 32)) (hs : c.size = 2) : (results fn tmps).run Tryd.prog w = .ok (.tuple #[.agg c, v]) w := by
  rw [results_cell_tmp h, hp, hu]
  simp [asAddr, load_seal hg hs, Result.andThen]

set_option maxHeartbeats 2000000 in
theorem sign_any (x k m : Int) (w : World) :
    Calls Tryd.prog 34 #[.int .i64 x, .int .i64 k, .int .i64 m] w fun e w' => e = .returned (.tuple #[.agg (sealC (sigP x k m) (sigA x k m)), errV 77 (sigC x k m)]) ∧ Below w.heap.size w w' := by
  have HB0 := hide (below_new w (.cells #[.int .i64 0, .int .i64 0] 32))
  have HG0 := hide (blk_new w (.cells #[.int .i64 0, .int .i64 0] 32))
  obtain ⟨r0, r1⟩ := seal_cells HG0.out
  obtain ⟨g0, g1⟩ := seal_free HG0.out
  cases hx : secB x with
  | false =>
    obtain ⟨e1, e2, e3⟩ := sig_no (k := k) (m := m) (Or.inl hx)
    rw [e1, e2, e3]
    clear e1 e2 e3
    go_enter Tryd.func34, Tryd.ntmps34
    go_wp2_with (go_at_call 12; refine (public_no _ _ (by assumption)).mono ?_; rintro e w' ⟨rfl, rfl⟩)
    refine bodyPost_ret (v := .tuple #[.agg (sealC 0 0), .iface 77 (.int .i64 1)]) ?_ rfl ⟨?_, ?_⟩
    · exact results_seal (p := 6) (u := 7) rfl _ _ w.heap.size _ _ rfl rfl HG0.out rfl
    · rfl
    · exact HB0.out
  | true =>
    cases hk : secB k with
    | false =>
      obtain ⟨e1, e2, e3⟩ := sig_no (x := x) (m := m) (Or.inr (Or.inl hk))
      rw [e1, e2, e3]
      clear e1 e2 e3
      go_enter Tryd.func34, Tryd.ntmps34
      go_wp2_with (go_at_call 12; (first | refine (public_no _ _ (by assumption)).mono ?_ | refine (public_ok _ _ (by assumption)).mono ?_); rintro e w' ⟨rfl, rfl⟩)
      refine bodyPost_ret (v := .tuple #[.agg (sealC 0 0), .iface 77 (.int .i64 1)]) ?_ rfl ⟨?_, ?_⟩
      · exact results_seal (p := 6) (u := 7) rfl _ _ w.heap.size _ _ rfl rfl HG0.out rfl
      · rfl
      · exact HB0.out
    | true =>
      have PX := hide (fun W => public_ok x W hx)
      have PK := hide (fun W => public_ok k W hk)
      have MX := hide (inB_isM (pwZ_in x))
      have MK := hide (inB_isM (pwZ_in k))
      cases hm : isM m with
      | false =>
        obtain ⟨e1, e2, e3⟩ := sig_no (x := x) (k := k) (Or.inr (Or.inr hm))
        rw [e1, e2, e3]
        have HM := hide hm
        clear e1 e2 e3 hx hk hm
        generalize pwZ 64 x = q at *
        generalize pwZ 64 k = p at *
        go_enter Tryd.func34, Tryd.ntmps34
        go_wp2_with (fail)
        refine (PX.out _).mono ?_
        rintro e w1 ⟨rfl, rfl⟩
        go_wp2_with (fail)
        refine (PK.out _).mono ?_
        rintro e w1 ⟨rfl, rfl⟩
        go_wp2_with (fail)
        refine (challenge_no p q m _ MK.out MX.out HM.out).mono ?_
        rintro e w1 ⟨rfl, hb1⟩
        have HB1 := hide (below_on HB0.out hb1)
        have HG1 := hide (blk_below HG0.out hb1)
        clear hb1 HB0 HG0 r0 r1 g0 g1
        obtain ⟨r0, r1⟩ := seal_cells HG1.out
        obtain ⟨g0, g1⟩ := seal_free HG1.out
        go_wp2
        rw [two_set HG1.out]
        refine bodyPost_ret (v := .tuple #[.agg (sealC 0 0), .iface 77 (.int .i64 1)]) ?_ rfl ⟨?_, ?_⟩
        · exact results_seal (p := 6) (u := 7) rfl _ _ w.heap.size _ _ rfl rfl (setRow_heap _ _ _ _ _ _ HG1.out) rfl
        · rfl
        · exact below_setRow HB1.out (by omega) _
      | true =>
        rw [sigC_ok hx hk hm, sigP_ok hx hk hm, sigA_ok hx hk hm]
        unfold sigH
        have HM := hide hm
        have xr := secB_iff.1 hx
        have kr := secB_iff.1 hk
        obtain ⟨x0, x1⟩ := xr
        obtain ⟨k0, k1⟩ := kr
        clear hx hk hm
        generalize pwZ 64 x = q at *
        generalize pwZ 64 k = p at *
        have CH := hide (fun W => challenge_ok p q m W MK.out MX.out HM.out)
        have c0 := chV_lo p q m
        have c1 := chV_hi p q m
        generalize chV p q m = c at *
        have hm0 : 0 ≤ c * x := Int.mul_nonneg c0 (by omega)
        have hm1 : c * x ≤ 257 * 257 := Int.mul_le_mul (by omega) (by omega) (by omega) (by omega)
        go_enter Tryd.func34, Tryd.ntmps34
        go_wp2_with (fail)
        refine (PX.out _).mono ?_
        rintro e w1 ⟨rfl, rfl⟩
        go_wp2_with (fail)
        refine (PK.out _).mono ?_
        rintro e w1 ⟨rfl, rfl⟩
        go_wp2_with (fail)
        refine (CH.out _).mono ?_
        rintro e w1 ⟨rfl, hb1⟩
        have HB1 := hide (below_on HB0.out hb1)
        have HG1 := hide (blk_below HG0.out hb1)
        clear hb1 HB0 HG0 r0 r1 g0 g1
        obtain ⟨r0, r1⟩ := seal_cells HG1.out
        obtain ⟨g0, g1⟩ := seal_free HG1.out
        go_wp2
        rw [two_set HG1.out]
        refine bodyPost_ret (v := .tuple #[.agg (sealC p ((k + c * x) % 257)), .nilIface]) ?_ rfl ⟨?_, ?_⟩
        · exact results_seal (p := 6) (u := 7) rfl _ _ w.heap.size _ _ rfl rfl (setRow_heap _ _ _ _ _ _ HG1.out) rfl
        · rfl
        · exact below_setRow HB1.out (by omega) _
end Go.Proofs.YtidnjnhmkhekeaaDoor.Key
namespace Go.Proofs.YtidnjnhmkhekeaaDoor.Key
open Go.ChangeShapes Go.WideShapes Go.ChangeAt Go.RowKit
open Go.Proofs.YtidnjnhmkhekeaaDoor.M Go.Proofs.YtidnjnhmkhekeaaDoor.Measure
set_option linter.unusedVariables false

theorem below_quiet {B : Nat} {a w : World} (h : Below B a w) : ∀ n, Below B a (w.drewN n)
  | 0 => h
  | n + 1 => Below.drew (below_quiet h n)

set_option maxHeartbeats 2000000 in
theorem check_form (q m p a : Int) (w : World) (h : inB q = false ∨ inB p = false ∨ ansB a = false) :
    Calls Tryd.prog 95 #[.int .i64 q, .int .i64 m, .agg (sealC p a)] w fun e w' => e = .returned (.tuple #[.bool false, .iface 77 (.int .i64 1)]) ∧ Below w.heap.size w w' := by
  have HB := hide (below_new w (.cells (sealC p a) 32))
  unfold sealC at HB ⊢
  have HF := hide h
  clear h
  cases hq : inB q with
  | false =>
    go_enter Tryd.func95, Tryd.ntmps95
    go_wp2_with (go_at_call 26; refine (public_is _ _).mono ?_; rintro e w' ⟨rfl, rfl⟩)
    go_ret2
    exact ⟨rfl, HB.out⟩
  | true =>
    cases hp : inB p with
    | false =>
      go_enter Tryd.func95, Tryd.ntmps95
      go_wp2_with (go_at_call 26; refine (public_is _ _).mono ?_; rintro e w' ⟨rfl, rfl⟩)
      go_ret2
      exact ⟨rfl, HB.out⟩
    | true =>
      by_cases h0 : a < 0
      · go_enter Tryd.func95, Tryd.ntmps95
        go_wp2_with (go_at_call 26; refine (public_is _ _).mono ?_; rintro e w' ⟨rfl, rfl⟩)
        go_ret2
        exact ⟨rfl, HB.out⟩
      · have h1 : 257 ≤ a := by
          have := HF.out
          rw [hq, hp, ansB_not] at this
          simp at this
          omega
        go_enter Tryd.func95, Tryd.ntmps95
        go_wp2_with (go_at_call 26; refine (public_is _ _).mono ?_; rintro e w' ⟨rfl, rfl⟩)
        go_ret2
        exact ⟨rfl, HB.out⟩

set_option maxHeartbeats 2000000 in
theorem check_meas (q m p a : Int) (w : World) (hq : inB q = true) (hp : inB p = true) (ha : ansB a = true) (hm : isM m = false) :
    Calls Tryd.prog 95 #[.int .i64 q, .int .i64 m, .agg (sealC p a)] w fun e w' => e = .returned (.tuple #[.bool false, .iface 77 (.int .i64 1)]) ∧ Below w.heap.size w w' := by
  have HB := hide (below_new w (.cells (sealC p a) 32))
  unfold sealC at HB ⊢
  have ar := ansB_iff.1 ha
  obtain ⟨a0, a1⟩ := ar
  have CH := hide (fun W => challenge_no p q m W (inB_isM hp) (inB_isM hq) hm)
  clear ha hm
  go_enter Tryd.func95, Tryd.ntmps95
  go_wp2_with (go_at_call 26; refine (public_is _ _).mono ?_; rintro e w' ⟨rfl, rfl⟩)
  refine (CH.out _).mono ?_
  rintro e w1 ⟨rfl, hb1⟩
  have HB1 := hide (below_on HB.out hb1)
  clear hb1 HB
  go_wp2
  go_ret2
  exact ⟨rfl, HB1.out⟩

set_option maxHeartbeats 400000 in
theorem check_ok (q m p a : Int) (w : World) (hq : inB q = true) (hp : inB p = true) (ha : ansB a = true) (hm : isM m = true) :
    Calls Tryd.prog 95 #[.int .i64 q, .int .i64 m, .agg (sealC p a)] w fun e w' => e = .returned (.tuple #[.bool (saysB q m p a), .nilIface]) ∧ Below w.heap.size w w' := by
  have HB := hide (below_new w (.cells (sealC p a) 32))
  have HG := hide (blk_new w (.cells (sealC p a) 32))
  unfold sealC at HB HG ⊢
  have ar := ansB_iff.1 ha
  obtain ⟨a0, a1⟩ := ar
  have qr := inB_iff.1 hq
  obtain ⟨q0, q1⟩ := qr
  have pr := inB_iff.1 hp
  obtain ⟨p0, p1⟩ := pr
  have CH := hide (fun W => challenge_ok p q m W (inB_isM hp) (inB_isM hq) hm)
  clear ha hm
  unfold saysB
  have c0 := chV_lo p q m
  have c1 := chV_hi p q m
  generalize chV p q m = c at *
  have PA := hide (fun W => power_any 64 a W (by omega) (by omega) a0 (by omega))
  have PC := hide (fun W => power_any q c W (by omega) (by omega) c0 (by omega))
  have u0 := pwZ_lo 64 a
  have u1 := pwZ_hi 64 a
  have v0 := pwZ_lo q c
  have v1 := pwZ_hi q c
  generalize pwZ 64 a = u at *
  generalize pwZ q c = v at *
  have hm0 : 0 ≤ p * v := Int.mul_nonneg (by omega) v0
  have hm1 : p * v ≤ 1543 * 1543 := Int.mul_le_mul (by omega) (by omega) (by omega) (by omega)
  go_enter Tryd.func95, Tryd.ntmps95
  go_wp2_with (go_at_call 26; refine (public_is _ _).mono ?_; rintro e w' ⟨rfl, rfl⟩)
  refine (CH.out _).mono ?_
  rintro e w1 ⟨rfl, hb1⟩
  have HB1 := hide (below_on HB.out hb1)
  have HG1 := hide (blk_below HG.out hb1)
  clear hb1 HB HG
  obtain ⟨r0, r1⟩ := seal_cells HG1.out
  go_wp2_with (fail)
  go_quiet (first | (go_at_call_of 37 (Value.int .i64 a); exact Calls.quiet_of_same (PA.out _)) | (go_at_call_of 37 (Value.int .i64 c); exact Calls.quiet_of_same (PC.out _)))
  go_wp2
  go_ret2
  exact ⟨by rfl, below_quiet HB1.out _⟩

theorem check_any (q m p a : Int) (w : World) :
    Calls Tryd.prog 95 #[.int .i64 q, .int .i64 m, .agg (sealC p a)] w fun e w' => e = .returned (.tuple #[.bool (chkB q m p a), errV 77 (chkC q m p a)]) ∧ Below w.heap.size w w' := by
  cases hq : inB q with
  | false =>
    have hf := form_no (m := m) (p := p) (a := a) (Or.inl hq)
    rw [chkB_no hf, chkC_no hf]
    exact check_form q m p a w (Or.inl hq)
  | true =>
    cases hp : inB p with
    | false =>
      have hf := form_no (q := q) (m := m) (a := a) (Or.inr (Or.inl hp))
      rw [chkB_no hf, chkC_no hf]
      exact check_form q m p a w (Or.inr (Or.inl hp))
    | true =>
      cases ha : ansB a with
      | false =>
        have hf := form_no (q := q) (m := m) (p := p) (Or.inr (Or.inr (Or.inr ha)))
        rw [chkB_no hf, chkC_no hf]
        exact check_form q m p a w (Or.inr (Or.inr ha))
      | true =>
        cases hm : isM m with
        | false =>
          have hf := form_no (q := q) (p := p) (a := a) (Or.inr (Or.inr (Or.inl hm)))
          rw [chkB_no hf, chkC_no hf]
          exact check_meas q m p a w hq hp ha hm
        | true =>
          have hf := formB_iff.2 ⟨hq, hp, hm, ha⟩
          rw [chkB_ok hf, chkC_ok hf]
          exact check_ok q m p a w hq hp ha hm

set_option maxHeartbeats 2000000 in
theorem hold_any (q m p a : Int) (w : World) :
    Calls Tryd.prog 75 #[.int .i64 q, .int .i64 m, .agg (sealC p a)] w fun e w' => e = .returned (errV 77 (rigC q m p a)) ∧ Below w.heap.size w w' := by
  have HB0 := hide (below_new w (.cells (sealC p a) 32))
  have CK := hide (fun W => check_any q m p a W)
  have RC := hide (rig_chk q m p a)
  unfold sealC at HB0 CK ⊢
  generalize rigC q m p a = rc at *
  generalize chkC q m p a = cc at *
  generalize chkB q m p a = cb at *
  go_enter Tryd.func75, Tryd.ntmps75
  go_wp2_with (fail)
  refine (CK.out _).mono ?_
  rintro e w2 ⟨rfl, hb2⟩
  have HB2 := hide (below_on HB0.out hb2)
  clear hb2 HB0 CK
  rcases RC.out with ⟨rfl, rfl, rfl⟩ | ⟨rfl, rfl, rfl⟩ | ⟨rfl, rfl, rfl⟩
  · rw [errV_zero]
    go_wp2
    go_ret
    exact ⟨rfl, HB2.out⟩
  · rw [errV_zero]
    go_wp2
    go_ret
    exact ⟨rfl, HB2.out⟩
  · rw [errV_one]
    go_wp2
    go_ret
    exact ⟨rfl, HB2.out⟩
end Go.Proofs.YtidnjnhmkhekeaaDoor.Key
namespace Go.Proofs.YtidnjnhmkhekeaaDoor.M

theorem cop : Nat.Coprime 1000003 7919 := by decide +kernel
theorem dvd_of (d : Int) (h : (1000003 : Int) ∣ 7919 * d) : (1000003 : Int) ∣ d := by
  have h1 := Int.natAbs_dvd_natAbs.2 h
  rw [Int.natAbs_mul] at h1
  have h2 : 1000003 ∣ d.natAbs := Nat.Coprime.dvd_of_dvd_mul_left cop h1
  exact Int.natAbs_dvd_natAbs.1 h2
theorem dvd_small (d : Int) (h : (1000003 : Int) ∣ d) (h1 : -1000003 < d) (h2 : d < 1000003) : d = 0 := by
  obtain ⟨t, ht⟩ := h
  omega
theorem mod_sub (a b n : Int) (h : (7919 * a + n + 1) % 1000003 = (7919 * b + n + 1) % 1000003) : (1000003 : Int) ∣ 7919 * (a - b) := by
  have h1 := Int.dvd_of_emod_eq_zero (Int.emod_eq_emod_iff_emod_sub_eq_zero.1 h)
  have e : 7919 * a + n + 1 - (7919 * b + n + 1) = 7919 * (a - b) := by clear h h1; omega
  rw [e] at h1
  exact h1
theorem stp_left {a b n : Int} (ha : 0 ≤ a) (ha' : a < 1000003) (hb : 0 ≤ b) (hb' : b < 1000003) (h : stp 7919 a n = stp 7919 b n) : a = b := by
  have h1 := dvd_small (a - b) (dvd_of _ (mod_sub a b n h)) (by omega) (by omega)
  clear h
  omega
theorem allFrom_left : ∀ (xs : List Int) (a b : Int), 0 ≤ a → a < 1000003 → 0 ≤ b → b < 1000003 → allFrom a xs = allFrom b xs → a = b
  | [], a, b, _, _, _, _, h => h
  | x :: r, a, b, h0, h1, h2, h3, h => by
    have e : allFrom (stp 7919 a x) r = allFrom (stp 7919 b x) r := h
    exact stp_left h0 h1 h2 h3 (allFrom_left r _ _ (stp_ge _ _ _) (stp_lt _ _ _) (stp_ge _ _ _) (stp_lt _ _ _) e)
theorem allFrom_app (m : Int) (xs ys : List Int) : allFrom m (xs ++ ys) = allFrom (allFrom m xs) ys := by unfold allFrom; rw [List.foldl_append]
theorem allFrom_mid {p q : List Int} {x y : Int} (hx : isM x = true) (hy : isM y = true) (h : allFrom 0 (p ++ x :: q) = allFrom 0 (p ++ y :: q)) : x = y := by
  rw [allFrom_app, allFrom_app] at h
  have e : allFrom (stp 7919 (allFrom 0 p) x) q = allFrom (stp 7919 (allFrom 0 p) y) q := h
  have h1 := allFrom_left q _ _ (stp_ge _ _ _) (stp_lt _ _ _) (stp_ge _ _ _) (stp_lt _ _ _) e
  have hx' := isM_iff.1 hx
  have hy' := isM_iff.1 hy
  exact stp_inj _ _ _ _ hx'.1 hx'.2 hy'.1 hy'.2 h1
theorem askedL_nodup (m : Int) (n : Nat) : (askedL m n).Nodup := by
  induction n with
  | zero => exact List.nodup_nil
  | succ n ih =>
    cases h : bit m n with
    | false => rw [askedL_miss h]; exact ih
    | true =>
      rw [askedL_hit h, List.nodup_append]
      refine ⟨ih, by simp, ?_⟩
      intro a ha b hb
      obtain ⟨k, hk, rfl, _⟩ := askedL_mem ha
      rw [List.mem_singleton.1 hb]
      omega
theorem pick_set {xs : List Int} {k : Nat} {z : Int} {is : List Int} (h : ∀ i ∈ is, i.toNat ≠ k) : pick (xs.set k z) is = pick xs is := by
  unfold pick
  apply List.map_congr_left
  intro i hi
  rw [List.getD_eq_getElem?_getD, List.getD_eq_getElem?_getD, List.getElem?_set_ne (Ne.symm (h i hi))]
theorem pick_app (xs is js : List Int) : pick xs (is ++ js) = pick xs is ++ pick xs js := by unfold pick; rw [List.map_append]
/-- Where one register alone that is asked for is another one, so is what all come to. -/
theorem dig_set {xs : List Int} {k : Nat} {x z : Int} {m : Int} (hk : k < 8) (hx : xs[k]? = some x) (hmx : isM x = true) (hmz : isM z = true) (hb : bit m k = true)
    (h : allFrom 0 (pick xs (askedL m 8)) = allFrom 0 (pick (xs.set k z) (askedL m 8))) : x = z := by
  obtain ⟨p, q, e⟩ := List.append_of_mem (askedL_of hk hb)
  have hnd := askedL_nodup m 8
  rw [e] at hnd
  have hpos : ∀ i ∈ askedL m 8, 0 ≤ i := fun i hi => by obtain ⟨j, _, rfl, _⟩ := askedL_mem hi; omega
  have hne : ∀ i ∈ p ++ q, i.toNat ≠ k := by
    intro i hi he
    have hi' : i ∈ askedL m 8 := by
      rw [e]
      rcases List.mem_append.1 hi with h | h
      · exact List.mem_append_left _ h
      · exact List.mem_append_right _ (List.mem_cons_of_mem _ h)
    have : i = (k : Int) := by have := hpos i hi'; omega
    subst this
    rw [List.nodup_append] at hnd
    obtain ⟨_, h2, h3⟩ := hnd
    rcases List.mem_append.1 hi with h | h
    · exact h3 _ h _ (List.mem_cons_self) rfl
    · exact (List.nodup_cons.1 h2).1 h
  rw [e, pick_app, pick_app, pick_set (fun i hi => hne i (List.mem_append_left _ hi))] at h
  have e2 : pick (xs.set k z) ((k : Int) :: q) = z :: pick xs q := by
    have hz : (xs.set k z)[k]? = some z := List.getElem?_set_self (by exact (List.getElem?_eq_some_iff.1 hx).1)
    have := pick_set (xs := xs) (k := k) (z := z) (is := q) (fun i hi => hne i (List.mem_append_right _ hi))
    rw [← this]
    unfold pick
    rw [List.map_cons, List.getD_eq_getElem?_getD, Int.toNat_natCast, hz]
    rfl
  have e3 : pick xs ((k : Int) :: q) = x :: pick xs q := by
    unfold pick
    rw [List.map_cons, List.getD_eq_getElem?_getD, Int.toNat_natCast, hx]
    rfl
  rw [e2, e3] at h
  exact allFrom_mid hmx hmz h
theorem differ_iff {xs ys : List Int} {m : Int} : differ xs ys m = true ↔ ∃ k : Nat, k < 8 ∧ bit m k = true ∧ xs.getD k 0 ≠ ys.getD k 0 := by
  unfold differ
  rw [List.any_eq_true]
  constructor
  · rintro ⟨i, hi, h⟩
    obtain ⟨k, hk, rfl, hb⟩ := askedL_mem hi
    exact ⟨k, hk, hb, by simpa using h⟩
  · rintro ⟨k, hk, hb, h⟩
    exact ⟨k, askedL_of hk hb, by simpa using h⟩
theorem extV_all {xs : List Int} {i m : Int} (ho : extOk xs i m = true) : okAll (extV xs i m) = true := by
  obtain ⟨h1, h2, h3⟩ := extOk_iff.1 ho
  rw [extV_ok ho]
  refine okAll_of fun k x hx => ?_
  rw [List.getElem?_set] at hx
  split at hx
  · split at hx
    · cases hx; exact isM_iff.2 ⟨stp_ge _ _ _, stp_lt _ _ _⟩
    · cases hx
  · exact okAll_at h1 hx
/-- Extended by one register, the digest is as it was just where what is asked for is alike. -/
theorem dig_ext {xs : List Int} {i m mask : Int} (hl : xs.length = 8) (ho : extOk xs i m = true) (hm : isMask mask = true) :
    decide (digV (extV xs i m) mask = digV xs mask) = !differ xs (extV xs i m) mask := by
  obtain ⟨h1, h2, h3⟩ := extOk_iff.1 ho
  have hreg := isReg_iff.1 h2
  have ha := extV_all ho
  rw [digV_ok h1 hm, digV_ok ha hm]
  cases hd : differ xs (extV xs i m) mask with
  | false => rw [pick_same hd]; simp
  | true =>
    rw [Bool.not_true]
    apply decide_eq_false
    intro he
    obtain ⟨k, hk, hb, hne⟩ := differ_iff.1 hd
    obtain ⟨j, rfl⟩ : ∃ j : Nat, i = j := ⟨i.toNat, by omega⟩
    obtain ⟨x, hx⟩ : ∃ x, xs[j]? = some x := ⟨xs[j]'(by omega), List.getElem?_eq_getElem (by omega)⟩
    have hkj : k = j := by
      apply Decidable.byContradiction
      intro hn
      apply hne
      rw [List.getD_eq_getElem?_getD, List.getD_eq_getElem?_getD, extV_other ho (by omega)]
    subst hkj
    rw [extV_ok ho, Int.toNat_natCast] at he hne
    have hz := dig_set (z := stp 7919 (xs.getD k 0) m) hk hx (okAll_at h1 hx) (isM_iff.2 ⟨stp_ge _ _ _, stp_lt _ _ _⟩) hb he.symm
    apply hne
    rw [List.getD_eq_getElem?_getD (l := xs.set _ _), List.getElem?_set_self (by omega), List.getD_eq_getElem?_getD, hx] 
    rw [List.getD_eq_getElem?_getD, hx] at hz
    exact hz
theorem dig_same {xs ys : List Int} {mask : Int} (h : sameV xs ys mask = true) : digV xs mask = digV ys mask := by
  unfold sameV at h
  split at h
  · rename_i hh
    rw [digV_ok hh.1 hh.2.2, digV_ok hh.2.1 hh.2.2, pick_same (by simpa using h)]
  · cases h
theorem dig_range (xs : List Int) (m : Int) : 0 ≤ digV xs m ∧ digV xs m < 1000003 := by
  unfold digV
  split
  · exact allFrom_range 0 _ (by omega) (by omega)
  · omega
end Go.Proofs.YtidnjnhmkhekeaaDoor.M
namespace Go.Proofs.YtidnjnhmkhekeaaDoor.M

/-- The lid of a bank, and what a secret is hidden by. -/
def lidV (xs : List Int) (m : Int) : Int := stp 7919 (digV xs m) 1
def padV (xs : List Int) (m : Int) : Int := stp 7919 (digV xs m) 2
theorem lidV_m (xs : List Int) (m : Int) : isM (lidV xs m) = true := isM_iff.2 ⟨stp_ge _ _ _, stp_lt _ _ _⟩
theorem padV_r (xs : List Int) (m : Int) : 0 ≤ padV xs m ∧ padV xs m < 1000003 := ⟨stp_ge _ _ _, stp_lt _ _ _⟩
theorem digV_m (xs : List Int) (m : Int) : isM (digV xs m) = true := isM_iff.2 (dig_range xs m)
/-- A secret closed: what is wrong, and the box. -/
def clsE (s m : Int) (xs : List Int) : Int := if isM s = true then digE xs m else 1
def clsV (s m : Int) (xs : List Int) : Int × Int × Int := if clsE s m xs = 0 then (m, lidV xs m, (s + padV xs m) % 1000003) else (0, 0, 0)
theorem clsE_no {s m : Int} {xs : List Int} (h : isM s = false) : clsE s m xs = 1 := by unfold clsE; rw [h]; rfl
theorem clsE_ok {s m : Int} {xs : List Int} (h : isM s = true) : clsE s m xs = digE xs m := if_pos h
theorem clsV_ok {s m : Int} {xs : List Int} (h : clsE s m xs = 0) : clsV s m xs = (m, lidV xs m, (s + padV xs m) % 1000003) := if_pos h
theorem clsV_no {s m : Int} {xs : List Int} (h : ¬ clsE s m xs = 0) : clsV s m xs = (0, 0, 0) := if_neg h
theorem digE_is (xs : List Int) (m : Int) : digE xs m = 0 ∨ digE xs m = 1 := by unfold digE; split <;> simp
theorem digE_zero {xs : List Int} {m : Int} (h : digE xs m = 0) : okAll xs = true ∧ isMask m = true := by
  unfold digE at h
  split at h
  · assumption
  · cases h
theorem clsE_zero {s m : Int} {xs : List Int} (h : clsE s m xs = 0) : isM s = true ∧ digE xs m = 0 := by
  cases hs : isM s with
  | false => rw [clsE_no hs] at h; cases h
  | true => exact ⟨rfl, (clsE_ok hs).symm.trans h⟩
theorem clsE_is (s m : Int) (xs : List Int) : clsE s m xs = 0 ∨ clsE s m xs = 1 := by
  cases hs : isM s with
  | false => exact Or.inr (clsE_no hs)
  | true => rw [clsE_ok hs]; exact digE_is xs m
/-- A box opened: what is wrong, and the secret. -/
def opnE (x : Int × Int × Int) (xs : List Int) : Int := if both x.2.1 x.2.2 = true then (if digE xs x.1 = 0 then (if lidV xs x.1 = x.2.1 then 0 else 8) else 1) else 1
def opnV (x : Int × Int × Int) (xs : List Int) : Int := if opnE x xs = 0 then (x.2.2 - padV xs x.1 + 1000003) % 1000003 else 0
section
variable {x : Int × Int × Int} {xs : List Int}
theorem opnE_form (h : both x.2.1 x.2.2 = false) : opnE x xs = 1 := by unfold opnE; rw [h]; rfl
theorem opnE_dig (h : both x.2.1 x.2.2 = true) (h2 : ¬ digE xs x.1 = 0) : opnE x xs = 1 := by unfold opnE; rw [if_pos h, if_neg h2]
theorem opnE_lid (h : both x.2.1 x.2.2 = true) (h2 : digE xs x.1 = 0) (h3 : ¬ lidV xs x.1 = x.2.1) : opnE x xs = 8 := by unfold opnE; rw [if_pos h, if_pos h2, if_neg h3]
theorem opnE_ok (h : both x.2.1 x.2.2 = true) (h2 : digE xs x.1 = 0) (h3 : lidV xs x.1 = x.2.1) : opnE x xs = 0 := by unfold opnE; rw [if_pos h, if_pos h2, if_pos h3]
theorem opnV_ok (h : opnE x xs = 0) : opnV x xs = (x.2.2 - padV xs x.1 + 1000003) % 1000003 := if_pos h
theorem opnV_no (h : ¬ opnE x xs = 0) : opnV x xs = 0 := if_neg h
end
theorem back {s p : Int} (hs : 0 ≤ s) (hs' : s < 1000003) : ((s + p) % 1000003 - p + 1000003) % 1000003 = s := by
  have e : (s + p) % 1000003 - p + 1000003 = s + 1000003 * (1 - (s + p) / 1000003) := by
    have := Int.emod_add_mul_ediv (s + p) 1000003
    rw [Int.mul_sub]
    omega
  rw [e, Int.add_mul_emod_self_left]
  exact Int.emod_eq_of_lt hs hs'
theorem cls_both {s m : Int} {xs : List Int} (h : clsE s m xs = 0) : both (clsV s m xs).2.1 (clsV s m xs).2.2 = true := by
  rw [clsV_ok h]
  exact both_iff.2 ⟨lidV_m _ _, isM_iff.2 ⟨Int.emod_nonneg _ (by omega), Int.emod_lt_of_pos _ (by omega)⟩⟩
/-- It opens where the digest is as it was, and there just its secret comes out. -/
theorem opn_cls {s m : Int} {xs ys : List Int} (h : clsE s m xs = 0) (hd : digE ys m = 0) (he : digV ys m = digV xs m) : opnE (clsV s m xs) ys = 0 ∧ opnV (clsV s m xs) ys = s := by
  have hb := cls_both h
  obtain ⟨hs, _⟩ := clsE_zero h
  have hr := isM_iff.1 hs
  have e0 : opnE (clsV s m xs) ys = 0 := by
    refine opnE_ok hb ?_ ?_
    · rw [clsV_ok h]; exact hd
    · rw [clsV_ok h]; unfold lidV; rw [he]
  refine ⟨e0, ?_⟩
  rw [opnV_ok e0, clsV_ok h]
  have : padV ys m = padV xs m := by unfold padV; rw [he]
  simp only []
  rw [this]
  exact back hr.1 hr.2
/-- Where the digest is another one it stays closed. -/
theorem opn_else {s m : Int} {xs ys : List Int} (h : clsE s m xs = 0) (hd : digE ys m = 0) (he : ¬ digV ys m = digV xs m) : opnE (clsV s m xs) ys = 8 := by
  have hb := cls_both h
  refine opnE_lid hb ?_ ?_
  · rw [clsV_ok h]; exact hd
  · rw [clsV_ok h]
    intro hl
    have r1 := dig_range ys m
    have r2 := dig_range xs m
    exact he (stp_left r1.1 r1.2 r2.1 r2.2 hl)
theorem opn_ext {s m i k : Int} {xs : List Int} (hl : xs.length = 8) (h : clsE s m xs = 0) (ho : extOk xs i k = true) :
    opnE (clsV s m xs) (extV xs i k) = (if differ xs (extV xs i k) m = true then 8 else 0) := by
  obtain ⟨_, hd⟩ := clsE_zero h
  obtain ⟨h1, hm⟩ := digE_zero hd
  have ha := extV_all ho
  have hd2 := digE_ok ha hm
  have hx := dig_ext (mask := m) hl ho hm
  cases hdf : differ xs (extV xs i k) m with
  | false =>
    rw [hdf] at hx
    rw [(opn_cls h hd2 (of_decide_eq_true hx)).1]
    rfl
  | true =>
    rw [hdf] at hx
    rw [opn_else h hd2 (of_decide_eq_false hx)]
    rfl
end Go.Proofs.YtidnjnhmkhekeaaDoor.M
namespace Go.Proofs.YtidnjnhmkhekeaaDoor.M

/-- A cert: its key, and its seal's point and answer; its cells. -/
def certV (c : Int × Int × Int) : List Value := [.int .i64 c.1, .int .i64 c.2.1, .int .i64 c.2.2]
theorem certV_len (c : Int × Int × Int) : (certV c).length = 3 := rfl
theorem certV_one (c : Int × Int × Int) : ∀ u ∈ certV c, u.oneCell' = true := by
  intro u hu
  simp [certV] at hu
  rcases hu with rfl | rfl | rfl <;> rfl
/-- The last key, and the fault, of certs behind a key that is one. -/
def lastF : Int → List (Int × Int × Int) → Int × Int
  | root, [] => (root, 0)
  | root, c :: r => if inB c.1 = true then (if rigC root c.1 c.2.1 c.2.2 = 0 then lastF c.1 r else (0, rigC root c.1 c.2.1 c.2.2)) else (0, 1)
theorem lastF_nil (root : Int) : lastF root [] = (root, 0) := rfl
theorem lastF_in {root : Int} {c : Int × Int × Int} {r : List (Int × Int × Int)} (h : inB c.1 = false) : lastF root (c :: r) = (0, 1) := by rw [lastF, h]; rfl
theorem lastF_ok {root : Int} {c : Int × Int × Int} {r : List (Int × Int × Int)} (h : inB c.1 = true) (h2 : rigC root c.1 c.2.1 c.2.2 = 0) : lastF root (c :: r) = lastF c.1 r := by rw [lastF, if_pos h, if_pos h2]
theorem lastF_bad {root : Int} {c : Int × Int × Int} {r : List (Int × Int × Int)} (h : inB c.1 = true) (h2 : ¬ rigC root c.1 c.2.1 c.2.2 = 0) : lastF root (c :: r) = (0, rigC root c.1 c.2.1 c.2.2) := by rw [lastF, if_pos h, if_neg h2]
def lastO (root : Int) (l : List (Int × Int × Int)) : Int × Int := if 12 < l.length then (0, 4) else if inB root = true then lastF root l else (0, 1)
def lastV (root : Int) (l : List (Int × Int × Int)) : Int := (lastO root l).1
def lastC (root : Int) (l : List (Int × Int × Int)) : Int := (lastO root l).2
theorem lastO_full {root : Int} {l : List (Int × Int × Int)} (h : 12 < l.length) : lastV root l = 0 ∧ lastC root l = 4 := by unfold lastV lastC lastO; rw [if_pos h]; exact ⟨rfl, rfl⟩
theorem lastO_root {root : Int} {l : List (Int × Int × Int)} (h : ¬ 12 < l.length) (hr : inB root = false) : lastV root l = 0 ∧ lastC root l = 1 := by unfold lastV lastC lastO; rw [if_neg h, hr]; exact ⟨rfl, rfl⟩
theorem lastO_go {root : Int} {l : List (Int × Int × Int)} (h : ¬ 12 < l.length) (hr : inB root = true) : lastV root l = (lastF root l).1 ∧ lastC root l = (lastF root l).2 := by unfold lastV lastC lastO; rw [if_neg h, if_pos hr]; exact ⟨rfl, rfl⟩
theorem lastC_zero {root : Int} {l : List (Int × Int × Int)} (h : lastC root l = 0) : ¬ 12 < l.length ∧ inB root = true ∧ lastF root l = (lastV root l, 0) := by
  by_cases h1 : 12 < l.length
  · rw [(lastO_full h1).2] at h; cases h
  · cases hr : inB root with
    | false => rw [(lastO_root h1 hr).2] at h; cases h
    | true =>
      obtain ⟨e1, e2⟩ := lastO_go (l := l) h1 hr
      exact ⟨h1, rfl, by rw [e1, ← h, e2]⟩
theorem lastV_nil (root : Int) : lastV root [] = (if inB root = true then root else 0) ∧ lastC root [] = (if inB root = true then 0 else 1) := by
  unfold lastV lastC lastO
  rw [if_neg (by simp)]
  cases h : inB root <;> simp [lastF]
/-- What is right goes on from its first part. -/
theorem lastF_split : ∀ (l r : List (Int × Int × Int)) (root n : Int), inB root = true → lastF root (l ++ r) = (n, 0) → ∃ m, inB m = true ∧ lastF root l = (m, 0) ∧ lastF m r = (n, 0)
  | [], r, root, n, hr, h => ⟨root, hr, rfl, h⟩
  | c :: l, r, root, n, hr, h => by
    cases hc : inB c.1 with
    | false =>
      rw [List.cons_append, lastF_in hc] at h
      cases h
    | true =>
      by_cases h2 : rigC root c.1 c.2.1 c.2.2 = 0
      · rw [List.cons_append, lastF_ok hc h2] at h
        obtain ⟨m, h3, h4, h5⟩ := lastF_split l r c.1 n hc h
        exact ⟨m, h3, by rw [lastF_ok hc h2, h4], h5⟩
      · rw [List.cons_append, lastF_bad hc h2] at h
        exact absurd (congrArg Prod.snd h) h2
theorem last_split {root : Int} {l : List (Int × Int × Int)} (k : Nat) (h : lastC root l = 0) :
    lastC root (l.take k) = 0 ∧ lastC (lastV root (l.take k)) (l.drop k) = 0 ∧ lastV (lastV root (l.take k)) (l.drop k) = lastV root l := by
  obtain ⟨h1, h2, h3⟩ := lastC_zero h
  rw [← List.take_append_drop k l] at h3
  obtain ⟨m, h4, h5, h6⟩ := lastF_split _ _ _ _ h2 h3
  rw [List.take_append_drop] at h6
  have e1 := lastO_go (root := root) (l := l.take k) (by simp; omega) h2
  have e2 := lastO_go (root := m) (l := l.drop k) (by simp; omega) h4
  rw [h5] at e1
  rw [h6] at e2
  rw [e1.1]
  exact ⟨e1.2, e2.2, e2.1⟩
/-- A cert that was made: what is wrong, and the cert. -/
def mkC (x k q : Int) : Int := if inB q = true then sigC x k q else 1
def mkV (x k q : Int) : Int × Int × Int := if mkC x k q = 0 then (q, sigP x k q, sigA x k q) else (0, 0, 0)
theorem mkC_ok {x k q : Int} (h : inB q = true) : mkC x k q = sigC x k q := if_pos h
theorem mkC_no {x k q : Int} (h : inB q = false) : mkC x k q = 1 := by unfold mkC; rw [h]; rfl
theorem mkV_ok {x k q : Int} (h : mkC x k q = 0) : mkV x k q = (q, sigP x k q, sigA x k q) := if_pos h
theorem mkV_no {x k q : Int} (h : ¬ mkC x k q = 0) : mkV x k q = (0, 0, 0) := if_neg h
theorem mk_own {x k y : Int} (hx : secB x = true) (hk : secB k = true) : mkC x k (pwZ 64 y) = 0 := by
  rw [mkC_ok (pwZ_in y), sigC_ok hx hk (inB_isM (pwZ_in y))]
theorem mk_not {x k y : Int} (hx : secB x = true) (h : ¬ mkC x k (pwZ 64 y) = 0) : k < 1 ∨ 256 < k := by
  cases hk : secB k with
  | true => exact absurd (mk_own hx hk) h
  | false => have := secB_not.1 hk; omega
/-- It is right by the key of who made it. -/
theorem rig_own {x k m : Int} (hx : secB x = true) (hk : secB k = true) (hm : isM m = true) : rigC (pwZ 64 x) m (sigP x k m) (sigA x k m) = 0 := by
  rw [sigP_ok hx hk hm]
  refine rigC_yes (formB_iff.2 ⟨pwZ_in x, pwZ_in k, hm, sigA_ans⟩) ?_
  rw [says_own hx hk hm sigA_ans]
  exact decide_eq_true rfl
/-- Certs that each one makes for the next. -/
def chainC (k : Int) : List Int → List (Int × Int × Int)
  | [] => []
  | [_] => []
  | s :: t :: r => mkV s k (pwZ 64 t) :: chainC k (t :: r)
theorem chain_snoc (k : Int) : ∀ (l : List Int) (s t : Int), chainC k (l ++ [s, t]) = chainC k (l ++ [s]) ++ [mkV s k (pwZ 64 t)]
  | [], s, t => rfl
  | [a], s, t => rfl
  | a :: b :: l, s, t => by
    have h := chain_snoc k (b :: l) s t
    simp only [List.cons_append, chainC] at h ⊢
    rw [h]
theorem chain_len (k : Int) : ∀ (l : List Int), (chainC k l).length = l.length - 1
  | [] => rfl
  | [_] => rfl
  | s :: t :: r => by
    have h := chain_len k (t :: r)
    simp only [chainC, List.length_cons] at h ⊢
    omega
theorem chain_last {k : Int} (hk : secB k = true) : ∀ (l : List Int) (s : Int), (∀ x ∈ s :: l, secB x = true) → lastF (pwZ 64 s) (chainC k (s :: l)) = (pwZ 64 ((s :: l).getLastD 0), 0)
  | [], s, h => rfl
  | t :: r, s, h => by
    have hs := h s (by simp)
    have ht : ∀ x ∈ t :: r, secB x = true := fun x hx => h x (List.mem_cons_of_mem _ hx)
    have hm := inB_isM (pwZ_in t)
    have e := mkV_ok (mk_own (y := t) hs hk)
    have h2 := chain_last hk r t ht
    rw [chainC, e, lastF_ok (c := (pwZ 64 t, sigP s k (pwZ 64 t), sigA s k (pwZ 64 t))) (pwZ_in t) (rig_own hs hk hm)]
    simpa using h2
end Go.Proofs.YtidnjnhmkhekeaaDoor.M
namespace Go.Proofs.YtidnjnhmkhekeaaDoor.M

theorem mea_is (nm : ByteArray) (v : Int) (cd : ByteArray) : isM (meaV nm v cd) = true := by
  rw [isM_iff]
  unfold meaV
  split
  · exact ofFrom_range 1 _ (by omega) (by omega)
  · omega
/-- A signed image that is made: what is wrong, and its seal. -/
def sgnE (x k : Int) (nm : ByteArray) (v : Int) (cd : ByteArray) : Int := if imgE nm v cd = 0 then sigC x k (meaV nm v cd) else imgE nm v cd
/-- A signed image that is checked: what is wrong. -/
def sldE (q : Int) (nm : ByteArray) (v : Int) (cd : ByteArray) (p a : Int) : Int := if imgE nm v cd = 0 then rigC q (meaV nm v cd) p a else imgE nm v cd
section
variable {x k q p a v : Int} {nm cd : ByteArray}
theorem sgnE_img (h : ¬ imgE nm v cd = 0) : sgnE x k nm v cd = imgE nm v cd := if_neg h
theorem sgnE_ok (h : imgE nm v cd = 0) : sgnE x k nm v cd = sigC x k (meaV nm v cd) := if_pos h
theorem sgnE_zero (h : sgnE x k nm v cd = 0) : imgE nm v cd = 0 ∧ sigC x k (meaV nm v cd) = 0 := by
  by_cases hE : imgE nm v cd = 0
  · exact ⟨hE, (sgnE_ok hE).symm.trans h⟩
  · exact absurd ((sgnE_img hE).symm.trans h) hE
theorem sldE_img (h : ¬ imgE nm v cd = 0) : sldE q nm v cd p a = imgE nm v cd := if_neg h
theorem sldE_ok (h : imgE nm v cd = 0) : sldE q nm v cd p a = rigC q (meaV nm v cd) p a := if_pos h
theorem sigC_meas {m m' : Int} (h : isM m = true) (h' : isM m' = true) : sigC x k m = sigC x k m' := by
  unfold sigC
  rw [h, h']
/-- What is signed is right by its key; with another answer it is not. -/
theorem sld_own (h : sgnE x k nm v cd = 0) : sldE (pwZ 64 x) nm v cd (sigP x k (meaV nm v cd)) (sigA x k (meaV nm v cd)) = 0 := by
  obtain ⟨h1, h2⟩ := sgnE_zero h
  obtain ⟨hx, hk, hm⟩ := sigC_zero h2
  rw [sldE_ok h1, rig_own hx hk hm]
theorem sld_range {other : Int} (h : sgnE x k nm v cd = 0) (ho : ansB other = false) : sldE (pwZ 64 x) nm v cd (sigP x k (meaV nm v cd)) other = 1 := by
  obtain ⟨h1, h2⟩ := sgnE_zero h
  rw [sldE_ok h1, rigC_no (form_no (Or.inr (Or.inr (Or.inr ho))))]
theorem sld_other {other : Int} (h : sgnE x k nm v cd = 0) (ho : ansB other = true) (hne : ¬ other = sigA x k (meaV nm v cd)) : sldE (pwZ 64 x) nm v cd (sigP x k (meaV nm v cd)) other = 8 := by
  obtain ⟨h1, h2⟩ := sgnE_zero h
  obtain ⟨hx, hk, hm⟩ := sigC_zero h2
  rw [sldE_ok h1, sigP_ok hx hk hm]
  exact rigC_else (formB_iff.2 ⟨pwZ_in x, pwZ_in k, hm, ho⟩) (by rw [says_own hx hk hm ho]; exact decide_eq_false hne)
/-- An image that nobody signed is not right. -/
theorem sld_none : ¬ sldE q nm v cd 0 0 = 0 := by
  intro h
  by_cases hE : imgE nm v cd = 0
  · rw [sldE_ok hE, rigC_no (form_no (Or.inr (Or.inl rfl)))] at h
    cases h
  · exact hE ((sldE_img hE).symm.trans h)
end
end Go.Proofs.YtidnjnhmkhekeaaDoor.M
namespace Go.Proofs.YtidnjnhmkhekeaaDoor.M
/-- The cells of a signed image. -/
def sgnC (nm : ByteArray) (v : Int) (cd : ByteArray) (p a : Int) : Array Value := #[.string nm, .int .i64 v, .string cd, .int .i64 p, .int .i64 a]
theorem cells5 {w : World} {b : Nat} {x0 x1 x2 x3 x4 : Value} {t : TypeId} {fr : Nat × Nat} (h : w.heap[b]? = some (.cells #[x0, x1, x2, x3, x4] t fr)) :
    w.cell? ⟨b, 0, none⟩ = some x0 ∧ w.cell? ⟨b, 1, none⟩ = some x1 ∧ w.cell? ⟨b, 2, none⟩ = some x2 ∧ w.cell? ⟨b, 3, none⟩ = some x3 ∧ w.cell? ⟨b, 4, none⟩ = some x4 := by
  refine ⟨?_, ?_, ?_, ?_, ?_⟩ <;> rw [cell_of_row w b _ _ t fr h] <;> rfl
theorem free5 {w : World} {b : Nat} {c : Array Value} {t : TypeId} (h : w.heap[b]? = some (.cells c t)) :
    w.frozen? ⟨b, 0, none⟩ = false ∧ w.frozen? ⟨b, 1, none⟩ = false ∧ w.frozen? ⟨b, 2, none⟩ = false ∧ w.frozen? ⟨b, 3, none⟩ = false ∧ w.frozen? ⟨b, 4, none⟩ = false :=
  ⟨frozen_of_row w b 0 _ _ h, frozen_of_row w b 1 _ _ h, frozen_of_row w b 2 _ _ h, frozen_of_row w b 3 _ _ h, frozen_of_row w b 4 _ _ h⟩
theorem set5 {w : World} {b : Nat} {a0 a1 a2 a3 a4 x0 x1 x2 x3 x4 : Value} {t : TypeId} {fr : Nat × Nat} (hg : w.heap[b]? = some (.cells #[a0, a1, a2, a3, a4] t fr)) :
    ((((w.setCell ⟨b, 0, none⟩ x0).setCell ⟨b, 1, none⟩ x1).setCell ⟨b, 2, none⟩ x2).setCell ⟨b, 3, none⟩ x3).setCell ⟨b, 4, none⟩ x4 = w.setRow b #[x0, x1, x2, x3, x4] := by
  rw [setCell_eq_setRow w b 0 _ _ _ x0 hg]
  have h1 := setRow_heap w b _ (#[a0, a1, a2, a3, a4].setIfInBounds 0 x0) t fr hg
  rw [setCell_eq_setRow _ b 1 _ _ _ x1 h1, setRow_setRow]
  have h2 := setRow_heap w b _ ((#[a0, a1, a2, a3, a4].setIfInBounds 0 x0).setIfInBounds 1 x1) t fr hg
  rw [setCell_eq_setRow _ b 2 _ _ _ x2 h2, setRow_setRow]
  have h3 := setRow_heap w b _ (((#[a0, a1, a2, a3, a4].setIfInBounds 0 x0).setIfInBounds 1 x1).setIfInBounds 2 x2) t fr hg
  rw [setCell_eq_setRow _ b 3 _ _ _ x3 h3, setRow_setRow]
  have h4 := setRow_heap w b _ ((((#[a0, a1, a2, a3, a4].setIfInBounds 0 x0).setIfInBounds 1 x1).setIfInBounds 2 x2).setIfInBounds 3 x3) t fr hg
  rw [setCell_eq_setRow _ b 4 _ _ _ x4 h4, setRow_setRow]
  rfl
/-- A signed image that was made, in its cells. -/
def mkS (x k : Int) (nm : ByteArray) (v : Int) (cd : ByteArray) : Array Value :=
  if sgnE x k nm v cd = 0 then sgnC nm v cd (sigP x k (meaV nm v cd)) (sigA x k (meaV nm v cd)) else sgnC { data := #[] } 0 { data := #[] } 0 0
theorem mkS_ok {x k v : Int} {nm cd : ByteArray} (h : sgnE x k nm v cd = 0) : mkS x k nm v cd = sgnC nm v cd (sigP x k (meaV nm v cd)) (sigA x k (meaV nm v cd)) := if_pos h
theorem mkS_no {x k v : Int} {nm cd : ByteArray} (h : ¬ sgnE x k nm v cd = 0) : mkS x k nm v cd = sgnC { data := #[] } 0 { data := #[] } 0 0 := if_neg h
end Go.Proofs.YtidnjnhmkhekeaaDoor.M
namespace Go.Proofs.YtidnjnhmkhekeaaDoor.Sign
open Go.ChangeShapes Go.WideShapes Go.ChangeAt Go.RowKit
open Go.Proofs.YtidnjnhmkhekeaaDoor.M Go.Proofs.YtidnjnhmkhekeaaDoor.Key Go.Proofs.YtidnjnhmkhekeaaDoor.Image
set_option linter.unusedVariables false

theorem info_signed : (Tryd.prog.info? 67).map (·.size) = some 5 := by kernel_rfl
theorem load_signed {w : World} {b : Nat} {c : Array Value} {fr : Nat × Nat} (h : w.heap[b]? = some (.cells c 67 fr)) (hs : c.size = 5) : (loadVar 67 ⟨b, 0, none⟩).run Tryd.prog w = .ok (.agg c) w :=
  run_loadVar_row w b _ _ c fr _ h Tryd.underlying67 rfl (by rw [info_signed, hs])
theorem results_signed {fn : Func} {p u : Tmp} (h : fn.results = #[.cell p 67, .tmp u]) (tmps : Array Value) (w : World) (b : Nat) (c : Array Value) (v : Value) (hp : tmps.getD p undef = .pointer (some ⟨b, 0, none⟩)) (hu : tmps.getD u undef = v)
    (hg : w.heap[b]? = some (.cells c 67)) (hs : c.size = 5) : (results fn tmps).run Tryd.prog w = .ok (.tuple #[.agg c, v]) w := by
  rw [results_cell_tmp h, hp, hu]
  simp [asAddr, load_signed hg hs, Result.andThen]

set_option maxHeartbeats 4000000 in
theorem check_any (q v p a : Int) (nm cd : ByteArray) (w : World) (hn : nm.size ≤ 140737488351232) (hc : cd.size ≤ 140737488351232) (hh : Has w) :
    Calls Tryd.prog 52 #[.int .i64 q, .agg (sgnC nm v cd p a)] w fun e w' => e = .returned (errV 77 (sldE q nm v cd p a)) ∧ Below w.heap.size w w' := by
  have HB := hide (below_new w (.cells (sgnC nm v cd p a) 67))
  have HG := hide (blk_new w (.cells (sgnC nm v cd p a) 67))
  have ME := hide (fun (W : World) (h : Has W) => measure_any nm cd v W hn hc h)
  have HH := hide (hh.below HB.out)
  clear hh
  unfold sgnC at HB HG HH ⊢
  unfold imgC at ME
  go_enter Tryd.func52, Tryd.ntmps52
  go_wp2_with (fail)
  refine (ME.out _ HH.out).mono ?_
  rintro e w1 ⟨rfl, hb1⟩
  have HB1 := hide (below_on HB.out hb1)
  have HG1 := hide (blk_below HG.out hb1)
  clear hb1 HB HG HH ME
  obtain ⟨r0, r1, r2, r3, r4⟩ := cells5 HG1.out
  by_cases hE : imgE nm v cd = 0
  · have HS := hide (sldE_ok (q := q) (p := p) (a := a) hE)
    rw [hE, errV_zero]
    clear hE
    have CK := hide (fun W => hold_any q (meaV nm v cd) p a W)
    unfold sealC at CK
    generalize rigC q (meaV nm v cd) p a = rc at *
    go_wp2_with (fail)
    refine (CK.out _).mono ?_
    rintro e w2 ⟨rfl, hb2⟩
    have HB2 := hide (below_on HB1.out hb2)
    clear hb2 HB1 HG1 CK r0 r1 r2 r3 r4
    go_wp2
    go_ret
    exact ⟨by rw [HS.out]; rfl, HB2.out⟩
  · have HS := hide (sldE_img (q := q) (p := p) (a := a) hE)
    have HX := hide (errV_ne (T := 77) hE)
    rw [errV_ne hE]
    clear hE
    go_wp2
    go_ret
    exact ⟨by rw [HS.out, HX.out]; rfl, HB1.out⟩

/-- Where the image and the seal lie that go into a signed image, where the answer will lie, and that all else is as it was. -/
def InvG (w0 : World) (P Q R : Nat) (nm : ByteArray) (v : Int) (cd : ByteArray) (p a : Int) (W : World) : Prop :=
  Below w0.heap.size w0 W ∧ (w0.heap.size ≤ R ∧ P ≠ R ∧ Q ≠ R) ∧ W.heap[P]? = some (.cells #[.string nm, .int .i64 v, .string cd] 63) ∧ W.heap[Q]? = some (.cells #[.int .i64 p, .int .i64 a] 32) ∧ ∃ x0 x1 x2 x3 x4, W.heap[R]? = some (.cells #[x0, x1, x2, x3, x4] 67)
section
variable {w0 W W' : World} {P Q R : Nat} {nm cd : ByteArray} {v p a : Int}
theorem invG_S (h : InvG w0 P Q R nm v cd p a W) : W.cell? ⟨P, 0, none⟩ = some (.string nm) ∧ W.cell? ⟨P, 1, none⟩ = some (.int .i64 v) ∧ W.cell? ⟨P, 2, none⟩ = some (.string cd) ∧ W.cell? ⟨Q, 0, none⟩ = some (.int .i64 p) ∧ W.cell? ⟨Q, 1, none⟩ = some (.int .i64 a)
    ∧ W.frozen? ⟨R, 0, none⟩ = false ∧ W.frozen? ⟨R, 1, none⟩ = false ∧ W.frozen? ⟨R, 2, none⟩ = false ∧ W.frozen? ⟨R, 3, none⟩ = false ∧ W.frozen? ⟨R, 4, none⟩ = false
    ∧ W.cell? ⟨R, 0, none⟩ = some (cellAt W R 0) ∧ W.cell? ⟨R, 1, none⟩ = some (cellAt W R 1) ∧ W.cell? ⟨R, 2, none⟩ = some (cellAt W R 2) ∧ W.cell? ⟨R, 3, none⟩ = some (cellAt W R 3) ∧ W.cell? ⟨R, 4, none⟩ = some (cellAt W R 4) ∧ InvG w0 P Q R nm v cd p a W := by
  have h' := h
  obtain ⟨h1, h2, h3, h5, x0, x1, x2, x3, x4, h4⟩ := h
  obtain ⟨c0, c1, c2⟩ := img_cells (nm := nm) (v := v) (cd := cd) h3
  obtain ⟨d0, d1⟩ := seal_cells h5
  obtain ⟨f0, f1, f2, f3, f4⟩ := free5 h4
  obtain ⟨e0, e1, e2, e3, e4⟩ := cells5 h4
  exact ⟨c0, c1, c2, d0, d1, f0, f1, f2, f3, f4, cellAt_of e0, cellAt_of e1, cellAt_of e2, cellAt_of e3, cellAt_of e4, h'⟩
theorem invG_drew (h : InvG w0 P Q R nm v cd p a W) : InvG w0 P Q R nm v cd p a W.drew := ⟨Below.drew h.1, h.2⟩
theorem invG_below (h : InvG w0 P Q R nm v cd p a W) (hb : Below W.heap.size W W') : InvG w0 P Q R nm v cd p a W' := by
  obtain ⟨h1, h2, h3, h5, x0, x1, x2, x3, x4, h4⟩ := h
  exact ⟨below_on h1 hb, h2, blk_below h3 hb, blk_below h5 hb, x0, x1, x2, x3, x4, blk_below h4 hb⟩
theorem invG_set (h : InvG w0 P Q R nm v cd p a W) (i : Nat) (u : Value) : InvG w0 P Q R nm v cd p a (W.setCell ⟨R, i, none⟩ u) := by
  obtain ⟨h1, h2, h3, h5, x0, x1, x2, x3, x4, h4⟩ := h
  rw [setCell_eq_setRow W R i _ _ _ u h4]
  refine ⟨below_setRow h1 h2.1 _, h2, by rw [setRow_other _ _ _ _ h2.2.1]; exact h3, by rw [setRow_other _ _ _ _ h2.2.2]; exact h5, ?_⟩
  have h6 := setRow_heap _ _ _ (#[x0, x1, x2, x3, x4].setIfInBounds i u) _ _ h4
  match i with
  | 0 => exact ⟨u, x1, x2, x3, x4, h6⟩
  | 1 => exact ⟨x0, u, x2, x3, x4, h6⟩
  | 2 => exact ⟨x0, x1, u, x3, x4, h6⟩
  | 3 => exact ⟨x0, x1, x2, u, x4, h6⟩
  | 4 => exact ⟨x0, x1, x2, x3, u, h6⟩
  | i + 5 => exact ⟨x0, x1, x2, x3, x4, h6⟩
theorem invG_put (h : InvG w0 P Q R nm v cd p a W) (y0 y1 y2 y3 y4 : Value) :
    (((((W.setCell ⟨R, 0, none⟩ y0).setCell ⟨R, 1, none⟩ y1).setCell ⟨R, 2, none⟩ y2).setCell ⟨R, 3, none⟩ y3).setCell ⟨R, 4, none⟩ y4).heap[R]? = some (.cells #[y0, y1, y2, y3, y4] 67) ∧ Below w0.heap.size w0 (((((W.setCell ⟨R, 0, none⟩ y0).setCell ⟨R, 1, none⟩ y1).setCell ⟨R, 2, none⟩ y2).setCell ⟨R, 3, none⟩ y3).setCell ⟨R, 4, none⟩ y4) := by
  obtain ⟨h1, h2, h3, h5, x0, x1, x2, x3, x4, h4⟩ := h
  rw [set5 h4]
  exact ⟨setRow_heap _ _ _ _ _ _ h4, below_setRow h1 h2.1 _⟩
end

set_option maxHeartbeats 4000000 in
theorem make_any (x k v : Int) (nm cd : ByteArray) (w : World) (hn : nm.size ≤ 140737488351232) (hc : cd.size ≤ 140737488351232) (hh : Has w) :
    Calls Tryd.prog 23 #[.int .i64 x, .int .i64 k, .agg (imgC nm v cd)] w fun e w' => e = .returned (.tuple #[.agg (mkS x k nm v cd), errV 77 (sgnE x k nm v cd)]) ∧ Below w.heap.size w w' := by
  have hbA := below_on (below_new w (.cells (imgC nm v cd) 63)) (below_new _ (.cells (sgnC { data := #[] } 0 { data := #[] } 0 0) 67))
  have HB := hide hbA
  have HI := hide (blk_keep (blk_new w (.cells (imgC nm v cd) 63)) (.cells (sgnC { data := #[] } 0 { data := #[] } 0 0) 67))
  have HG := hide (blk_two w (.cells (imgC nm v cd) 63) (.cells (sgnC { data := #[] } 0 { data := #[] } 0 0) 67))
  have ME := hide (fun (W : World) (h : Has W) => measure_any nm cd v W hn hc h)
  have CL := hide (fun (W : World) => clones_any nm cd v W hn hc)
  have HH := hide (hh.below hbA)
  clear hh hbA
  unfold imgC sgnC at HB HI HG HH
  unfold imgC at ME CL ⊢
  go_enter Tryd.func23, Tryd.ntmps23
  go_wp2_with (fail)
  refine (ME.out _ HH.out).mono ?_
  rintro e w1 ⟨rfl, hb1⟩
  have HB1 := hide (below_on HB.out hb1)
  have HI1 := hide (blk_below HI.out hb1)
  have HG1 := hide (blk_below HG.out hb1)
  clear hb1 HB HI HG HH ME
  by_cases hE : imgE nm v cd = 0
  · have SG := hide (fun W => sign_any x k (meaV nm v cd) W)
    have E := hide (sgnE_ok (x := x) (k := k) hE)
    have SC := hide (show sigC x k (meaV nm v cd) = 0 ∨ sigC x k (meaV nm v cd) = 1 by unfold sigC; split <;> simp)
    have V0 := hide (fun (h : sigC x k (meaV nm v cd) = 0) => mkS_ok (x := x) (k := k) (nm := nm) (v := v) (cd := cd) (E.out.trans h))
    have V1 := hide (fun (h : ¬ sigC x k (meaV nm v cd) = 0) => mkS_no (x := x) (k := k) (nm := nm) (v := v) (cd := cd) (fun e => h (E.out.symm.trans e)))
    rw [hE, errV_zero]
    clear hE
    unfold sealC at SG
    unfold sgnC at V0 V1
    generalize sigC x k (meaV nm v cd) = c at *
    generalize sigP x k (meaV nm v cd) = p at *
    generalize sigA x k (meaV nm v cd) = a at *
    go_wp2_with (fail)
    refine (SG.out _).mono ?_
    rintro e w2 ⟨rfl, hb2⟩
    have HB2 := hide (below_on HB1.out hb2)
    have HI2 := hide (blk_below HI1.out hb2)
    have HG2 := hide (blk_below HG1.out hb2)
    clear hb2 HB1 HI1 HG1 SG
    have hlt := blk_lt HG2.out
    have hli := blk_lt HI2.out
    rcases SC.out with rfl | rfl
    · have V := hide (V0.out rfl)
      clear V0 V1 SC
      rw [errV_zero]
      have hI : InvG w w.heap.size w2.heap.size (w.heap.size + 1) nm v cd p a (w2.alloc (.cells #[.int .i64 p, .int .i64 a] 32)) :=
        ⟨below_on HB2.out (below_new w2 _), ⟨by omega, by omega, by omega⟩, blk_keep HI2.out _, blk_new w2 _, _, _, _, _, _, blk_keep HG2.out _⟩
      obtain ⟨m0, m1, m2, s0, s1, f0, f1, f2, f3, f4, r0, r1, r2, r3, r4, _⟩ := invG_S hI
      clear HB2 HI2 HG2
      go_wp2_with (fail)
      go_region_held3 (fun W => W.cell? ⟨w.heap.size, 0, none⟩ = some (.string nm) ∧ W.cell? ⟨w.heap.size, 1, none⟩ = some (.int .i64 v) ∧ W.cell? ⟨w.heap.size, 2, none⟩ = some (.string cd) ∧ W.cell? ⟨w2.heap.size, 0, none⟩ = some (.int .i64 p) ∧ W.cell? ⟨w2.heap.size, 1, none⟩ = some (.int .i64 a)
        ∧ W.frozen? ⟨w.heap.size + 1, 0, none⟩ = false ∧ W.frozen? ⟨w.heap.size + 1, 1, none⟩ = false ∧ W.frozen? ⟨w.heap.size + 1, 2, none⟩ = false ∧ W.frozen? ⟨w.heap.size + 1, 3, none⟩ = false ∧ W.frozen? ⟨w.heap.size + 1, 4, none⟩ = false
        ∧ W.cell? ⟨w.heap.size + 1, 0, none⟩ = some (cellAt W (w.heap.size + 1) 0) ∧ W.cell? ⟨w.heap.size + 1, 1, none⟩ = some (cellAt W (w.heap.size + 1) 1) ∧ W.cell? ⟨w.heap.size + 1, 2, none⟩ = some (cellAt W (w.heap.size + 1) 2) ∧ W.cell? ⟨w.heap.size + 1, 3, none⟩ = some (cellAt W (w.heap.size + 1) 3) ∧ W.cell? ⟨w.heap.size + 1, 4, none⟩ = some (cellAt W (w.heap.size + 1) 4) ∧ InvG w w.heap.size w2.heap.size (w.heap.size + 1) nm v cd p a W)
        (exact invG_S (by repeat (first | assumption | apply invG_drew | apply invG_set)))
        (first | (go_at_call 54; refine (CL.out _).mono ?_; rintro e w5 ⟨rfl, hb5⟩; have hI5 : InvG w w.heap.size w2.heap.size (w.heap.size + 1) nm v cd p a w5 := invG_below (by repeat (first | assumption | apply invG_drew | apply invG_set)) hb5; clear hb5; obtain ⟨m50, m51, m52, s50, s51, f50, f51, f52, f53, f54, r50, r51, r52, r53, r54, _⟩ := invG_S hI5))
      all_goals
        go_wp2
        refine bodyPost_ret (v := .tuple #[.agg #[.string nm, .int .i64 v, .string cd, .int .i64 p, .int .i64 a], .nilIface]) ?_ rfl ⟨?_, ?_⟩
        · exact results_signed (p := 6) (u := 7) rfl _ _ (w.heap.size + 1) _ _ rfl rfl (invG_put (by repeat (first | assumption | apply invG_drew | apply invG_set)) _ _ _ _ _).1 rfl
        · rw [V.out, E.out]; rfl
        · exact (invG_put (by repeat (first | assumption | apply invG_drew | apply invG_set)) _ _ _ _ _).2
    · have V := hide (V1.out (by decide))
      clear V0 V1 SC
      obtain ⟨r0, r1, r2, r3, r4⟩ := cells5 HG2.out
      obtain ⟨g0, g1, g2, g3, g4⟩ := free5 HG2.out
      rw [errV_one]
      go_wp2
      rw [set5 HG2.out]
      refine bodyPost_ret (v := .tuple #[.agg #[.string { data := #[] }, .int .i64 0, .string { data := #[] }, .int .i64 0, .int .i64 0], .iface 77 (.int .i64 1)]) ?_ rfl ⟨?_, ?_⟩
      · exact results_signed (p := 6) (u := 7) rfl _ _ (w.heap.size + 1) _ _ rfl rfl (blk_keep (setRow_heap _ _ _ _ _ _ HG2.out) _) rfl
      · rw [V.out, E.out]; rfl
      · exact below_on (below_setRow HB2.out (by omega) _) (below_new _ _)
  · have E := hide (sgnE_img (x := x) (k := k) hE)
    have V := hide (mkS_no (x := x) (k := k) (nm := nm) (v := v) (cd := cd) (fun e => hE (E.out.symm.trans e)))
    have HX := hide (errV_ne (T := 77) hE)
    unfold sgnC at V
    rw [errV_ne hE]
    obtain ⟨r0, r1, r2, r3, r4⟩ := cells5 HG1.out
    obtain ⟨g0, g1, g2, g3, g4⟩ := free5 HG1.out
    clear hE
    go_wp2
    rw [set5 HG1.out]
    refine bodyPost_ret (v := .tuple #[.agg #[.string { data := #[] }, .int .i64 0, .string { data := #[] }, .int .i64 0, .int .i64 0], .iface 77 (.int .i64 (imgE nm v cd))]) ?_ rfl ⟨?_, ?_⟩
    · exact results_signed (p := 6) (u := 7) rfl _ _ (w.heap.size + 1) _ _ rfl rfl (setRow_heap _ _ _ _ _ _ HG1.out) rfl
    · rw [V.out, E.out, HX.out]
    · exact below_setRow HB1.out (by omega) _
end Go.Proofs.YtidnjnhmkhekeaaDoor.Sign
namespace Go.Proofs.YtidnjnhmkhekeaaDoor.M

/-- What a quote seals. -/
def quoM (n m d : Int) : Int := allFrom 0 [n, m, d]
theorem quoM_m (n m d : Int) : isM (quoM n m d) = true := isM_iff.2 (allFrom_range 0 _ (by omega) (by omega))
theorem mask_m {m : Int} (h : isMask m = true) : isM m = true := isM_iff.2 (by have := isMask_iff.1 h; omega)
theorem quo_ok {n m d : Int} (hn : isM n = true) (hm : isMask m = true) (hd : isM d = true) : okAll [n, m, d] = true := by simp [okAll, hn, mask_m hm, hd]
theorem sigC_any {x k m m' : Int} (h : isM m = true) (h' : isM m' = true) : sigC x k m = sigC x k m' := by unfold sigC; rw [h, h']
/-- A quote that is made: what is wrong, and the quote. -/
def quoE (x k n m : Int) (xs : List Int) : Int := if isM n = true then (if digE xs m = 0 then sigC x k (quoM n m (digV xs m)) else 1) else 1
def quoV (x k n m : Int) (xs : List Int) : Int × Int × Int × Int × Int :=
  if quoE x k n m xs = 0 then (n, m, digV xs m, sigP x k (quoM n m (digV xs m)), sigA x k (quoM n m (digV xs m))) else (0, 0, 0, 0, 0)
section
variable {x k n m : Int} {xs : List Int}
theorem quoE_no (h : isM n = false) : quoE x k n m xs = 1 := by unfold quoE; rw [h]; rfl
theorem quoE_dig (h : isM n = true) (h2 : ¬ digE xs m = 0) : quoE x k n m xs = 1 := by unfold quoE; rw [if_pos h, if_neg h2]
theorem quoE_go (h : isM n = true) (h2 : digE xs m = 0) : quoE x k n m xs = sigC x k (quoM n m (digV xs m)) := by unfold quoE; rw [if_pos h, if_pos h2]
theorem quoV_ok (h : quoE x k n m xs = 0) : quoV x k n m xs = (n, m, digV xs m, sigP x k (quoM n m (digV xs m)), sigA x k (quoM n m (digV xs m))) := if_pos h
theorem quoV_no (h : ¬ quoE x k n m xs = 0) : quoV x k n m xs = (0, 0, 0, 0, 0) := if_neg h
theorem quoE_zero (h : quoE x k n m xs = 0) : isM n = true ∧ digE xs m = 0 ∧ secB x = true ∧ secB k = true := by
  cases hn : isM n with
  | false => rw [quoE_no hn] at h; cases h
  | true =>
    by_cases hd : digE xs m = 0
    · rw [quoE_go hn hd] at h
      obtain ⟨h1, h2, _⟩ := sigC_zero h
      exact ⟨rfl, hd, h1, h2⟩
    · rw [quoE_dig hn hd] at h; cases h
theorem quoE_is (x k n m : Int) (xs : List Int) : quoE x k n m xs = 0 ∨ quoE x k n m xs = 1 := by
  cases hn : isM n with
  | false => exact Or.inr (quoE_no hn)
  | true =>
    by_cases hd : digE xs m = 0
    · rw [quoE_go hn hd]; unfold sigC; split <;> simp
    · exact Or.inr (quoE_dig hn hd)
end
/-- A quote that is checked, by a key, for a number. -/
def fitQ (q : Int × Int × Int × Int × Int) (nn : Int) : Bool := isM nn && isM q.1 && isM q.2.2.1 && isMask q.2.1
def rigQ (pub : Int) (q : Int × Int × Int × Int × Int) : Int := rigC pub (quoM q.1 q.2.1 q.2.2.1) q.2.2.2.1 q.2.2.2.2
def chqE (pub : Int) (q : Int × Int × Int × Int × Int) (nn : Int) : Int := if fitQ q nn = true then (if rigQ pub q = 0 then (if q.1 = nn then 0 else 7) else rigQ pub q) else 1
/-- Does it tell of a bank? -/
def telE (q : Int × Int × Int × Int × Int) (xs : List Int) : Int := if isM q.2.2.1 = true then digE xs q.2.1 else 1
def telB (q : Int × Int × Int × Int × Int) (xs : List Int) : Bool := if telE q xs = 0 then decide (digV xs q.2.1 = q.2.2.1) else false
section
variable {pub nn : Int} {q : Int × Int × Int × Int × Int} {xs : List Int}
theorem fitQ_iff : fitQ q nn = true ↔ isM nn = true ∧ isM q.1 = true ∧ isM q.2.2.1 = true ∧ isMask q.2.1 = true := by
  unfold fitQ; rw [Bool.and_eq_true, Bool.and_eq_true, Bool.and_eq_true, and_assoc, and_assoc]
theorem chqE_no (h : fitQ q nn = false) : chqE pub q nn = 1 := by unfold chqE; rw [h]; rfl
theorem chqE_rig (h : fitQ q nn = true) (h2 : ¬ rigQ pub q = 0) : chqE pub q nn = rigQ pub q := by unfold chqE; rw [if_pos h, if_neg h2]
theorem chqE_ok (h : fitQ q nn = true) (h2 : rigQ pub q = 0) (h3 : q.1 = nn) : chqE pub q nn = 0 := by unfold chqE; rw [if_pos h, if_pos h2, if_pos h3]
theorem chqE_else (h : fitQ q nn = true) (h2 : rigQ pub q = 0) (h3 : ¬ q.1 = nn) : chqE pub q nn = 7 := by unfold chqE; rw [if_pos h, if_pos h2, if_neg h3]
theorem telE_no (h : isM q.2.2.1 = false) : telE q xs = 1 := by unfold telE; rw [h]; rfl
theorem telE_ok (h : isM q.2.2.1 = true) : telE q xs = digE xs q.2.1 := if_pos h
theorem telB_ok (h : telE q xs = 0) : telB q xs = decide (digV xs q.2.1 = q.2.2.1) := if_pos h
theorem telB_no (h : ¬ telE q xs = 0) : telB q xs = false := if_neg h
theorem telE_is (q : Int × Int × Int × Int × Int) (xs : List Int) : telE q xs = 0 ∨ telE q xs = 1 := by
  cases h : isM q.2.2.1 with
  | false => exact Or.inr (telE_no h)
  | true => rw [telE_ok h]; exact digE_is _ _
theorem rigQ_is (pub : Int) (q : Int × Int × Int × Int × Int) : rigQ pub q = 0 ∨ rigQ pub q = 8 ∨ rigQ pub q = 1 := by
  rcases rig_chk pub (quoM q.1 q.2.1 q.2.2.1) q.2.2.2.1 q.2.2.2.2 with ⟨h, _⟩ | ⟨h, _⟩ | ⟨h, _⟩
  · exact Or.inl h
  · exact Or.inr (Or.inl h)
  · exact Or.inr (Or.inr h)
end
section
variable {x k n m nn : Int} {xs ys : List Int}
theorem quo_fit (h : quoE x k n m xs = 0) : fitQ (quoV x k n m xs) nn = isM nn := by
  obtain ⟨h1, h2, _, _⟩ := quoE_zero h
  rw [quoV_ok h]
  unfold fitQ
  simp only []
  rw [h1, digV_m, (digE_zero h2).2]
  cases isM nn <;> rfl
theorem quo_rig (h : quoE x k n m xs = 0) : rigQ (pwZ 64 x) (quoV x k n m xs) = 0 := by
  obtain ⟨_, _, hx, hk⟩ := quoE_zero h
  rw [quoV_ok h]
  exact rig_own hx hk (quoM_m _ _ _)
theorem quo_num (h : quoE x k n m xs = 0) : (quoV x k n m xs).1 = n := by rw [quoV_ok h]
theorem quo_mask (h : quoE x k n m xs = 0) : (quoV x k n m xs).2.1 = m := by rw [quoV_ok h]
theorem quo_dig (h : quoE x k n m xs = 0) : (quoV x k n m xs).2.2.1 = digV xs m := by rw [quoV_ok h]
/-- For its number it is right, for no other one. -/
theorem chq_own (h : quoE x k n m xs = 0) : chqE (pwZ 64 x) (quoV x k n m xs) n = 0 :=
  chqE_ok (by rw [quo_fit h]; exact (quoE_zero h).1) (quo_rig h) (quo_num h)
theorem chq_other (h : quoE x k n m xs = 0) (hne : ¬ nn = n) : chqE (pwZ 64 x) (quoV x k n m xs) nn = if isM nn = true then 7 else 1 := by
  cases hm : isM nn with
  | true => rw [chqE_else (by rw [quo_fit h]; exact hm) (quo_rig h) (by rw [quo_num h]; exact fun e => hne e.symm)]; rfl
  | false => rw [chqE_no (by rw [quo_fit h]; exact hm)]; rfl
theorem tel_e (h : quoE x k n m xs = 0) : telE (quoV x k n m xs) ys = digE ys m := by
  rw [telE_ok (by rw [quo_dig h]; exact digV_m _ _), quo_mask h]
theorem tel_b (h : quoE x k n m xs = 0) (hd : digE ys m = 0) : telB (quoV x k n m xs) ys = decide (digV ys m = digV xs m) := by
  rw [telB_ok ((tel_e h).trans hd), quo_mask h, quo_dig h]
theorem tel_ext {i t : Int} (hl : xs.length = 8) (h : quoE x k n m xs = 0) (ho : extOk xs i t = true) : telE (quoV x k n m xs) (extV xs i t) = 0 ∧ telB (quoV x k n m xs) (extV xs i t) = !differ xs (extV xs i t) m := by
  obtain ⟨_, hd, _, _⟩ := quoE_zero h
  have hm := (digE_zero hd).2
  have hd2 := digE_ok (extV_all ho) hm
  exact ⟨(tel_e h).trans hd2, by rw [tel_b h hd2, dig_ext hl ho hm]⟩
end
end Go.Proofs.YtidnjnhmkhekeaaDoor.M
namespace Go.Proofs.YtidnjnhmkhekeaaDoor.M

/-- What is wrong with one rule, behind some registers. -/
def ruleE (prev : List Int) (r : Int) (g : List Int) : Int := if isReg r = true then (if 12 < g.length then 4 else if okAll g = true then (if prev.contains r = true then 7 else 0) else 1) else 1
def rulesF : List Int → List (Int × List Int) → Int
  | _, [] => 0
  | prev, c :: t => if ruleE prev c.1 c.2 = 0 then rulesF (prev ++ [c.1]) t else ruleE prev c.1 c.2
def rulesE (l : List (Int × List Int)) : Int := if 8 < l.length then 4 else rulesF [] l
/-- Does a bank fit? The mask. -/
def fitsB (l : List (Int × List Int)) (b : List Int) : Bool := l.all fun c => c.2.contains (b.getD c.1.toNat 0)
def maskF : Int → List (Int × List Int) → Int
  | m, [] => m
  | m, c :: t => maskF (m + 2 ^ c.1.toNat) t
def maskV (l : List (Int × List Int)) : Int := maskF 0 l
section
variable {prev : List Int} {r : Int} {g : List Int} {c : Int × List Int} {t l : List (Int × List Int)}
theorem ruleE_reg (h : isReg r = false) : ruleE prev r g = 1 := by unfold ruleE; rw [h]; rfl
theorem ruleE_full (h : isReg r = true) (h2 : 12 < g.length) : ruleE prev r g = 4 := by unfold ruleE; rw [if_pos h, if_pos h2]
theorem ruleE_good (h : isReg r = true) (h2 : ¬ 12 < g.length) (h3 : okAll g = false) : ruleE prev r g = 1 := by unfold ruleE; rw [if_pos h, if_neg h2, h3]; rfl
theorem ruleE_clash (h : isReg r = true) (h2 : ¬ 12 < g.length) (h3 : okAll g = true) (h4 : prev.contains r = true) : ruleE prev r g = 7 := by unfold ruleE; rw [if_pos h, if_neg h2, if_pos h3, if_pos h4]
theorem ruleE_ok (h : isReg r = true) (h2 : ¬ 12 < g.length) (h3 : okAll g = true) (h4 : prev.contains r = false) : ruleE prev r g = 0 := by unfold ruleE; rw [if_pos h, if_neg h2, if_pos h3, h4]; rfl
theorem ruleE_zero (h : ruleE prev r g = 0) : isReg r = true ∧ ¬ 12 < g.length ∧ okAll g = true ∧ prev.contains r = false := by
  cases h1 : isReg r with
  | false => rw [ruleE_reg h1] at h; cases h
  | true =>
    by_cases h2 : 12 < g.length
    · rw [ruleE_full h1 h2] at h; cases h
    · cases h3 : okAll g with
      | false => rw [ruleE_good h1 h2 h3] at h; cases h
      | true =>
        cases h4 : prev.contains r with
        | true => rw [ruleE_clash h1 h2 h3 h4] at h; cases h
        | false => exact ⟨rfl, h2, rfl, rfl⟩
theorem rulesF_ok (h : ruleE prev c.1 c.2 = 0) : rulesF prev (c :: t) = rulesF (prev ++ [c.1]) t := by rw [rulesF, if_pos h]
theorem rulesF_bad (h : ¬ ruleE prev c.1 c.2 = 0) : rulesF prev (c :: t) = ruleE prev c.1 c.2 := by rw [rulesF, if_neg h]
theorem rulesE_full (h : 8 < l.length) : rulesE l = 4 := if_pos h
theorem rulesE_go (h : ¬ 8 < l.length) : rulesE l = rulesF [] l := if_neg h
theorem rulesE_zero (h : rulesE l = 0) : ¬ 8 < l.length ∧ rulesF [] l = 0 := by
  by_cases h1 : 8 < l.length
  · rw [rulesE_full h1] at h; cases h
  · exact ⟨h1, (rulesE_go h1).symm.trans h⟩
end
/-- Some rules that are right, behind some registers: each is of a register that none ahead is of. -/
theorem rules_regs : ∀ (l : List (Int × List Int)) (prev : List Int), rulesF prev l = 0 → (∀ c ∈ l, isReg c.1 = true ∧ okAll c.2 = true ∧ ¬ 12 < c.2.length ∧ c.1 ∉ prev) ∧ (l.map (·.1)).Nodup
  | [], _, _ => ⟨fun c h => by simp at h, List.nodup_nil⟩
  | c :: t, prev, h => by
    by_cases h0 : ruleE prev c.1 c.2 = 0
    · rw [rulesF_ok h0] at h
      obtain ⟨z1, z2, z3, z4⟩ := ruleE_zero h0
      obtain ⟨i1, i2⟩ := rules_regs t (prev ++ [c.1]) h
      have hp : c.1 ∉ prev := fun hm => by rw [List.contains_iff_mem.2 hm] at z4; cases z4
      refine ⟨fun d hd => ?_, ?_⟩
      · rcases List.mem_cons.1 hd with rfl | hd
        · exact ⟨z1, z3, z2, hp⟩
        · obtain ⟨j1, j2, j3, j4⟩ := i1 d hd
          exact ⟨j1, j2, j3, fun hm => j4 (List.mem_append_left _ hm)⟩
      · rw [List.map_cons, List.nodup_cons]
        refine ⟨fun hm => ?_, i2⟩
        obtain ⟨d, hd, he⟩ := List.mem_map.1 hm
        exact (i1 d hd).2.2.2 (by rw [he]; simp)
    · rw [rulesF_bad h0] at h
      exact absurd h h0
theorem rules_app : ∀ (l t : List (Int × List Int)) (prev : List Int), rulesF prev (l ++ t) = 0 → rulesF prev l = 0
  | [], _, _, _ => rfl
  | c :: l, t, prev, h => by
    by_cases h0 : ruleE prev c.1 c.2 = 0
    · rw [List.cons_append, rulesF_ok h0] at h
      rw [rulesF_ok h0]
      exact rules_app l t _ h
    · rw [List.cons_append, rulesF_bad h0] at h
      exact absurd h h0
/-- One more register in a mask. -/
theorem bit_add_fin : ∀ (m : Fin 256) (r k : Fin 8), bit (m.val : Int) r.val = false → bit ((m.val : Int) + 2 ^ r.val) k.val = (decide (k.val = r.val) || bit (m.val : Int) k.val) ∧ (m.val : Int) + 2 ^ r.val < 256 := by decide +kernel
theorem bit_zero (k : Nat) : bit 0 k = false := by unfold bit; simp
theorem mask_bits : ∀ (l : List (Int × List Int)) (m : Int), 0 ≤ m → m < 256 → (∀ c ∈ l, isReg c.1 = true ∧ bit m c.1.toNat = false) → (l.map (·.1)).Nodup →
    (0 ≤ maskF m l ∧ maskF m l < 256) ∧ ∀ k : Nat, k < 8 → bit (maskF m l) k = ((l.any fun c => decide (c.1 = (k : Int))) || bit m k)
  | [], m, h0, h1, _, _ => ⟨⟨h0, h1⟩, fun k _ => by simp [maskF]⟩
  | c :: t, m, h0, h1, hc, hn => by
    obtain ⟨hr, hb⟩ := hc c (List.mem_cons_self)
    have hreg := isReg_iff.1 hr
    rw [List.map_cons, List.nodup_cons] at hn
    obtain ⟨hn1, hn2⟩ := hn
    have fin : ∀ k : Nat, k < 8 → bit (m + 2 ^ c.1.toNat) k = (decide (k = c.1.toNat) || bit m k) ∧ m + 2 ^ c.1.toNat < 256 := by
      intro k hk
      have := bit_add_fin ⟨m.toNat, by omega⟩ ⟨c.1.toNat, by omega⟩ ⟨k, hk⟩
      simp only [] at this
      rw [show ((m.toNat : Nat) : Int) = m by omega] at this
      exact this hb
    have hpos : (0 : Int) ≤ 2 ^ c.1.toNat := Int.pow_nonneg (by omega)
    obtain ⟨i1, i2⟩ := mask_bits t (m + 2 ^ c.1.toNat) (by omega) (fin 0 (by omega)).2 (fun d hd => by
      obtain ⟨d1, d2⟩ := hc d (List.mem_cons_of_mem _ hd)
      refine ⟨d1, ?_⟩
      have dreg := isReg_iff.1 d1
      rw [(fin d.1.toNat (by omega)).1, d2]
      have : ¬ d.1.toNat = c.1.toNat := fun he => hn1 (List.mem_map.2 ⟨d, hd, by omega⟩)
      simp [this]) hn2
    refine ⟨i1, fun k hk => ?_⟩
    show bit (maskF (m + 2 ^ c.1.toNat) t) k = _
    rw [i2 k hk, (fin k hk).1, List.any_cons]
    have e : decide (k = c.1.toNat) = decide (c.1 = (k : Int)) := decide_eq_decide.2 ⟨fun h => by omega, fun h => by omega⟩
    rw [e]
    cases decide (c.1 = (k : Int)) <;> cases (t.any fun c => decide (c.1 = (k : Int))) <;> cases bit m k <;> rfl
theorem mask_of {l : List (Int × List Int)} (h : rulesE l = 0) : isMask (maskV l) = true ∧ ∀ c ∈ l, bit (maskV l) c.1.toNat = true := by
  obtain ⟨_, h1⟩ := rulesE_zero h
  obtain ⟨h2, h3⟩ := rules_regs l [] h1
  obtain ⟨⟨m0, m1⟩, m2⟩ := mask_bits l 0 (by omega) (by omega) (fun c hc => ⟨(h2 c hc).1, bit_zero _⟩) h3
  refine ⟨isMask_iff.2 ⟨m0, by unfold maskV; omega⟩, fun c hc => ?_⟩
  have hr := isReg_iff.1 (h2 c hc).1
  unfold maskV
  rw [m2 c.1.toNat (by omega)]
  have : (l.any fun d => decide (d.1 = ((c.1.toNat : Nat) : Int))) = true := List.any_eq_true.2 ⟨c, hc, decide_eq_true (by omega)⟩
  rw [this]
  rfl
/-- Who is alike where it counts is judged alike. -/
theorem fits_same {l : List (Int × List Int)} {b c : List Int} (h : rulesE l = 0) (hd : differ b c (maskV l) = false) : fitsB l b = fitsB l c := by
  obtain ⟨_, hm⟩ := mask_of h
  obtain ⟨_, h1⟩ := rulesE_zero h
  obtain ⟨h2, _⟩ := rules_regs l [] h1
  unfold fitsB
  have e : ∀ d ∈ l, b.getD d.1.toNat 0 = c.getD d.1.toNat 0 := by
    intro d hdm
    apply Decidable.byContradiction
    intro hne
    have hr := isReg_iff.1 (h2 d hdm).1
    have : differ b c (maskV l) = true := by
      unfold differ
      rw [List.any_eq_true]
      exact ⟨((d.1.toNat : Nat) : Int), askedL_of (by omega) (hm d hdm), by rw [Int.toNat_natCast]; exact bne_iff_ne.2 hne⟩
    rw [hd] at this
    cases this
  rw [Bool.eq_iff_iff, List.all_eq_true, List.all_eq_true]
  exact ⟨fun hh d hdm => by rw [← e d hdm]; exact hh d hdm, fun hh d hdm => by rw [e d hdm]; exact hh d hdm⟩
theorem fits_more {l : List (Int × List Int)} {r : Int} {g b : List Int} (h : fitsB (l ++ [(r, g)]) b = true) : fitsB l b = true ∧ 0 < g.length := by
  unfold fitsB at h ⊢
  rw [List.all_append, Bool.and_eq_true] at h
  refine ⟨h.1, ?_⟩
  have := h.2
  simp at this
  cases g with
  | nil => simp at this
  | cons a t => simp
theorem rules_more {l : List (Int × List Int)} {c : Int × List Int} (h : rulesE (l ++ [c]) = 0) : rulesE l = 0 := by
  obtain ⟨h1, h2⟩ := rulesE_zero h
  rw [rulesE_go (by rw [List.length_append] at h1; simp at h1; omega)]
  exact rules_app l [c] [] h2
end Go.Proofs.YtidnjnhmkhekeaaDoor.M
namespace Go.Proofs.YtidnjnhmkhekeaaDoor.M
/-- A rule: its register, the slice of what is good, and what lies there. -/
def ruleV (c : Int × Value × List Int) : List Value := [.int .i64 c.1, c.2.1]
def goodIn (w : World) (c : Int × Value × List Int) : Prop := ∃ ad cap, c.2.1 = .slice ad c.2.2.length cap ∧ c.2.2.length ≤ maxLen ∧ (ad = none → cap = 0) ∧ Row w ad c.2.2
def RulesIn (w : World) (a : Option Addr) (l : List (Int × Value × List Int)) : Prop := RRow 2 ruleV w a l ∧ ∀ c ∈ l, goodIn w c
def rulesL (l : List (Int × Value × List Int)) : List (Int × List Int) := l.map fun c => (c.1, c.2.2)
theorem ruleV_len (c : Int × Value × List Int) : (ruleV c).length = 2 := rfl
theorem goodIn.below {w w' : World} {c : Int × Value × List Int} (h : goodIn w c) (hb : Go.RowKit.Below w.heap.size w w') : goodIn w' c := by
  obtain ⟨ad, cap, h1, h2, h3, h4⟩ := h
  exact ⟨ad, cap, h1, h2, h3, h4.below hb⟩
theorem RulesIn.below {w w' : World} {a : Option Addr} {l : List (Int × Value × List Int)} (h : RulesIn w a l) (hb : Go.RowKit.Below w.heap.size w w') : RulesIn w' a l := ⟨h.1.below hb, fun c hc => (h.2 c hc).below hb⟩
theorem RulesIn.nil (w : World) (a : Option Addr) : RulesIn w a [] := ⟨RRow.nil _ _, fun c h => by simp at h⟩
theorem rulesL_len (l : List (Int × Value × List Int)) : (rulesL l).length = l.length := by unfold rulesL; rw [List.length_map]
theorem rulesL_at {l : List (Int × Value × List Int)} {k : Nat} {c : Int × Value × List Int} (h : l[k]? = some c) : (rulesL l)[k]? = some (c.1, c.2.2) := by unfold rulesL; rw [List.getElem?_map, h]; rfl
/-- A rule at its place: its two cells, and what its slice holds. -/
theorem RulesIn.at {w : World} {a : Option Addr} {l : List (Int × Value × List Int)} {k : Nat} {r : Int} {v : Value} {g : List Int} (h : RulesIn w a l) (hx : l[k]? = some (r, v, g)) :
    ∃ b off ad cap, a = some ⟨b, off, none⟩ ∧ v = .slice ad g.length cap ∧ g.length ≤ maxLen ∧ (ad = none → cap = 0) ∧ Row w ad g ∧ w.cell? ⟨b, off + k * 2, none⟩ = some (.int .i64 r) ∧ w.cell? ⟨b, off + k * 2 + 1, none⟩ = some (.slice ad g.length cap) := by
  obtain ⟨b, off, ha, hc⟩ := h.1.at hx
  obtain ⟨ad, cap, h1, h2, h3, h4⟩ := h.2 _ (List.mem_of_getElem? hx)
  simp only [] at h1 h2 h3 h4
  have c0 := hc 0 (.int .i64 r) rfl
  have c1 := hc 1 v rfl
  rw [h1] at c1
  exact ⟨b, off, ad, cap, ha, h1, h2, h3, h4, c0, c1⟩
end Go.Proofs.YtidnjnhmkhekeaaDoor.M
namespace Go.Proofs.YtidnjnhmkhekeaaDoor.OpenR
open Go.ChangeShapes Go.WideShapes Go.ChangeAt Go.RowKit
open Go.Proofs.YtidnjnhmkhekeaaDoor.M

theorem ints_of {H : Type} {enc : TypeId × Value → H} {P : Program} {W : World} {b0 : Nat} {hd : Bool} {t e : TypeId} {fuel : Nat} {cs : List Value} {x : DataW H × List MemPlace}
    (hu : P.underlying t = some (.slice e)) (he : P.underlying e = some (.int .i64)) (hce : P.cellsOf e = 1) (h : DataW.trod enc P W b0 (fun _ => true) hd fuel t cs = some x) :
    ∃ (a : Option Addr) (cap : Nat) (g : List Int), cs = [.slice a g.length cap] ∧ g.length ≤ maxLen ∧ (a = none → cap = 0) ∧ Row W a g := by
  rcases DataW.trod_slice hu h with ⟨rfl, _⟩ | ⟨a, l, c, _, _, _, _, rfl, _⟩
  · exact ⟨none, 0, [], rfl, by unfold maxLen; simp, fun _ => rfl, Or.inl rfl⟩
  · have hT : DataW.Trod enc P W b0 (fun _ => true) hd t (.slice (some a) l c) x.1 x.2 := ⟨fuel, h⟩
    obtain ⟨xs, h1, h2, h3, h4⟩ := Open.ints hu he hce hT
    exact ⟨some a, c, xs, by rw [h1], by omega, h3, h4⟩
theorem read {H : Type} {enc : TypeId × Value → H} {P : Program} {W : World} {b0 : Nat} {hd : Bool} {e g : TypeId} {f0 f1 : Field}
    (hu : P.underlying e = some (.struct #[f0, f1])) (h0 : P.underlying f0.type = some (.int .i64)) (h1 : P.underlying f1.type = some (.slice g)) (hg : P.underlying g = some (.int .i64))
    (o0 : f0.offset = 0) (o1 : f1.offset = 1) (c0 : P.cellsOf f0.type = 1) (c1 : P.cellsOf f1.type = 1) (cg : P.cellsOf g = 1) (ce : P.cellsOf e = 2)
    (fuel : Nat) (cs : List Value) (x : DataW H × List MemPlace) (h : DataW.trod enc P W b0 (fun _ => true) hd fuel e cs = some x) : ∃ r : Int × Value × List Int, cs = ruleV r ∧ goodIn W r := by
  obtain ⟨xs, m, _, _, hlen, hl, hy⟩ := DataW.trod_struct hu h
  have hl2 : xs.length = 2 := hl
  obtain ⟨x0, x1, rfl⟩ : ∃ x0 x1, xs = [x0, x1] := by
    match xs, hl2 with
    | [x0, x1], _ => exact ⟨x0, x1, rfl⟩
  have q0 := hy 0 f0 rfl
  have q1 := hy 1 f1 rfl
  rw [o0, c0] at q0
  rw [o1, c1] at q1
  rw [ce] at hlen
  obtain ⟨a, ea, _, _⟩ := DataW.trod_int h0 q0
  obtain ⟨ad, cap, g, eg, g1, g2, g3⟩ := ints_of h1 hg cg q1
  match cs, hlen with
  | [u, v], _ =>
    simp at ea eg
    exact ⟨(a, .slice ad g.length cap, g), by rw [ea, eg]; rfl, ad, cap, rfl, g1, g2, g3⟩
theorem rule {H : Type} {enc : TypeId × Value → H} {P : Program} {W : World} {b0 base : Nat} {hd : Bool} {e g : TypeId} {f0 f1 : Field} {v : Value} {d : DataW H} {ps : List MemPlace}
    (hu : P.underlying e = some (.struct #[f0, f1])) (h0 : P.underlying f0.type = some (.int .i64)) (h1 : P.underlying f1.type = some (.slice g)) (hg : P.underlying g = some (.int .i64))
    (o0 : f0.offset = 0) (o1 : f1.offset = 1) (c0 : P.cellsOf f0.type = 1) (c1 : P.cellsOf f1.type = 1) (cg : P.cellsOf g = 1) (ce : P.cellsOf e = 2)
    (hv : Value.okWide P W .any base e v) (h : DataW.Trod enc P W b0 (fun _ => true) hd e v d ps) :
    ∃ (r : Int) (a : Option Addr) (cap : Nat) (gs : List Int), v = .agg #[.int .i64 r, .slice a gs.length cap] ∧ gs.length ≤ maxLen ∧ (a = none → cap = 0) ∧ Row W a gs := by
  obtain ⟨cs, rfl, _, _⟩ : ∃ cs, v = .agg cs ∧ cs.size = P.cellsOf e ∧ Row.okWide P W .any base e cs := by
    simpa [Value.okWide, hu] using hv
  obtain ⟨fuel, hf⟩ := h
  obtain ⟨⟨r, u, gs⟩, e1, ad, cap, e2, e3, e4, e5⟩ := read hu h0 h1 hg o0 o1 c0 c1 cg ce fuel _ _ hf
  simp only [] at e2 e3 e4 e5
  subst e2
  refine ⟨r, ad, cap, gs, ?_, e3, e4, e5⟩
  congr 1
  apply Array.ext'
  exact e1
end Go.Proofs.YtidnjnhmkhekeaaDoor.OpenR
namespace Go.Proofs.YtidnjnhmkhekeaaDoor.M
open Go.ChangeShapes Go.WideShapes Go.ChangeAt Go.RowKit

theorem tri_cells {w : World} {b : Nat} {x y z : Value} {t : TypeId} {fr : Nat × Nat} (h : w.heap[b]? = some (.cells #[x, y, z] t fr)) :
    w.cell? ⟨b, 0, none⟩ = some x ∧ w.cell? ⟨b, 1, none⟩ = some y ∧ w.cell? ⟨b, 2, none⟩ = some z := by
  refine ⟨?_, ?_, ?_⟩ <;> rw [cell_of_row w b _ _ t fr h] <;> rfl
theorem tri_free {w : World} {b : Nat} {c : Array Value} {t : TypeId} (h : w.heap[b]? = some (.cells c t)) :
    w.frozen? ⟨b, 0, none⟩ = false ∧ w.frozen? ⟨b, 1, none⟩ = false ∧ w.frozen? ⟨b, 2, none⟩ = false := ⟨frozen_of_row w b 0 _ _ h, frozen_of_row w b 1 _ _ h, frozen_of_row w b 2 _ _ h⟩
theorem tri_set {w : World} {b : Nat} {a0 a1 a2 x y z : Value} {t : TypeId} {fr : Nat × Nat} (hg : w.heap[b]? = some (.cells #[a0, a1, a2] t fr)) :
    ((w.setCell ⟨b, 0, none⟩ x).setCell ⟨b, 1, none⟩ y).setCell ⟨b, 2, none⟩ z = w.setRow b #[x, y, z] := by
  rw [setCell_eq_setRow w b 0 _ _ _ x hg]
  have h1 := setRow_heap w b _ (#[a0, a1, a2].setIfInBounds 0 x) t fr hg
  rw [setCell_eq_setRow _ b 1 _ _ _ y h1, setRow_setRow]
  have h2 := setRow_heap w b _ ((#[a0, a1, a2].setIfInBounds 0 x).setIfInBounds 1 y) t fr hg
  rw [setCell_eq_setRow _ b 2 _ _ _ z h2, setRow_setRow]
  rfl
theorem quin_cells {w : World} {b : Nat} {x0 x1 x2 x3 x4 : Value} {t : TypeId} {fr : Nat × Nat} (h : w.heap[b]? = some (.cells #[x0, x1, x2, x3, x4] t fr)) :
    w.cell? ⟨b, 0, none⟩ = some x0 ∧ w.cell? ⟨b, 1, none⟩ = some x1 ∧ w.cell? ⟨b, 2, none⟩ = some x2 ∧ w.cell? ⟨b, 3, none⟩ = some x3 ∧ w.cell? ⟨b, 4, none⟩ = some x4 := by
  refine ⟨?_, ?_, ?_, ?_, ?_⟩ <;> rw [cell_of_row w b _ _ t fr h] <;> rfl
theorem quin_free {w : World} {b : Nat} {c : Array Value} {t : TypeId} (h : w.heap[b]? = some (.cells c t)) :
    w.frozen? ⟨b, 0, none⟩ = false ∧ w.frozen? ⟨b, 1, none⟩ = false ∧ w.frozen? ⟨b, 2, none⟩ = false ∧ w.frozen? ⟨b, 3, none⟩ = false ∧ w.frozen? ⟨b, 4, none⟩ = false :=
  ⟨frozen_of_row w b 0 _ _ h, frozen_of_row w b 1 _ _ h, frozen_of_row w b 2 _ _ h, frozen_of_row w b 3 _ _ h, frozen_of_row w b 4 _ _ h⟩
theorem quin_set {w : World} {b : Nat} {a0 a1 a2 a3 a4 x0 x1 x2 x3 x4 : Value} {t : TypeId} {fr : Nat × Nat} (hg : w.heap[b]? = some (.cells #[a0, a1, a2, a3, a4] t fr)) :
    ((((w.setCell ⟨b, 0, none⟩ x0).setCell ⟨b, 1, none⟩ x1).setCell ⟨b, 2, none⟩ x2).setCell ⟨b, 3, none⟩ x3).setCell ⟨b, 4, none⟩ x4 = w.setRow b #[x0, x1, x2, x3, x4] := by
  rw [setCell_eq_setRow w b 0 _ _ _ x0 hg]
  have h1 := setRow_heap w b _ (#[a0, a1, a2, a3, a4].setIfInBounds 0 x0) t fr hg
  rw [setCell_eq_setRow _ b 1 _ _ _ x1 h1, setRow_setRow]
  have h2 := setRow_heap w b _ ((#[a0, a1, a2, a3, a4].setIfInBounds 0 x0).setIfInBounds 1 x1) t fr hg
  rw [setCell_eq_setRow _ b 2 _ _ _ x2 h2, setRow_setRow]
  have h3 := setRow_heap w b _ (((#[a0, a1, a2, a3, a4].setIfInBounds 0 x0).setIfInBounds 1 x1).setIfInBounds 2 x2) t fr hg
  rw [setCell_eq_setRow _ b 3 _ _ _ x3 h3, setRow_setRow]
  have h4 := setRow_heap w b _ ((((#[a0, a1, a2, a3, a4].setIfInBounds 0 x0).setIfInBounds 1 x1).setIfInBounds 2 x2).setIfInBounds 3 x3) t fr hg
  rw [setCell_eq_setRow _ b 4 _ _ _ x4 h4, setRow_setRow]
  rfl
end Go.Proofs.YtidnjnhmkhekeaaDoor.M
namespace Go.Proofs.YtidnjnhmkhekeaaDoor.M
set_option linter.unusedVariables false

/-- An event in its cells: a register and a measure. -/
def evV (e : Int × Int) : List Value := [.int .i64 e.1, .int .i64 e.2]
theorem evV_len (e : Int × Int) : (evV e).length = 2 := rfl
def evOk (e : Int × Int) : Bool := isReg e.1 && isM e.2
def evE (l : List (Int × Int)) : Int := if 30 < l.length then 4 else if l.all evOk = true then 0 else 1
def putR (xs : List Int) (e : Int × Int) : List Int := xs.set e.1.toNat (stp 7919 (xs.getD e.1.toNat 0) e.2)
def repV (l : List (Int × Int)) : List Int := l.foldl putR noBank
theorem evE_full {l : List (Int × Int)} (h : 30 < l.length) : evE l = 4 := if_pos h
theorem evE_ok {l : List (Int × Int)} (h : ¬ 30 < l.length) (ho : l.all evOk = true) : evE l = 0 := by unfold evE; rw [if_neg h, if_pos ho]
theorem evE_bad {l : List (Int × Int)} (h : ¬ 30 < l.length) (ho : l.all evOk = false) : evE l = 1 := by unfold evE; rw [if_neg h, ho]; rfl
theorem evE_zero {l : List (Int × Int)} (h : evE l = 0) : ¬ 30 < l.length ∧ l.all evOk = true := by
  by_cases h1 : 30 < l.length
  · rw [evE_full h1] at h; cases h
  · cases h2 : l.all evOk with
    | true => exact ⟨h1, rfl⟩
    | false => rw [evE_bad h1 h2] at h; cases h
theorem evOk_iff {e : Int × Int} : evOk e = true ↔ isReg e.1 = true ∧ isM e.2 = true := by unfold evOk; rw [Bool.and_eq_true]
theorem putR_len (xs : List Int) (e : Int × Int) : (putR xs e).length = xs.length := by unfold putR; rw [List.length_set]
theorem fold_len : ∀ (l : List (Int × Int)) (xs : List Int), (l.foldl putR xs).length = xs.length
  | [], xs => rfl
  | e :: r, xs => by rw [List.foldl_cons, fold_len r, putR_len]
theorem repV_len (l : List (Int × Int)) : (repV l).length = 8 := fold_len l noBank
theorem repV_nil : repV [] = noBank := rfl
theorem repV_snoc (l : List (Int × Int)) (e : Int × Int) : repV (l ++ [e]) = putR (repV l) e := by unfold repV; rw [List.foldl_append]; rfl
theorem repV_take {l : List (Int × Int)} {k : Nat} {e : Int × Int} (h : l[k]? = some e) : repV (l.take (k + 1)) = putR (repV (l.take k)) e := by rw [take_one h, repV_snoc]
theorem putR_ok {xs : List Int} (h : okAll xs = true) (e : Int × Int) : okAll (putR xs e) = true := by
  refine okAll_of fun k x hx => ?_
  unfold putR at hx
  rw [List.getElem?_set] at hx
  split at hx
  · split at hx
    · cases hx
      exact isM_iff.2 ⟨stp_ge _ _ _, stp_lt _ _ _⟩
    · cases hx
  · exact okAll_at h hx
theorem fold_ok : ∀ (l : List (Int × Int)) (xs : List Int), okAll xs = true → okAll (l.foldl putR xs) = true
  | [], xs, h => h
  | e :: r, xs, h => by rw [List.foldl_cons]; exact fold_ok r _ (putR_ok h e)
theorem repV_ok (l : List (Int × Int)) : okAll (repV l) = true := fold_ok l noBank rfl
/-- One more goes on from where they were: it is the bank extended. -/
theorem rep_ext {l : List (Int × Int)} {e : Int × Int} (h : evOk e = true) : extE (repV l) e.1 e.2 = 0 ∧ extV (repV l) e.1 e.2 = repV (l ++ [e]) := by
  have ho : extOk (repV l) e.1 e.2 = true := extOk_iff.2 ⟨repV_ok l, (evOk_iff.1 h).1, (evOk_iff.1 h).2⟩
  exact ⟨extE_ok ho, by rw [extV_ok ho, repV_snoc]; rfl⟩
/-- Two events of two registers may change places. -/
theorem putR_comm {xs : List Int} {a b : Int × Int} (h : a.1.toNat ≠ b.1.toNat) : putR (putR xs a) b = putR (putR xs b) a := by
  unfold putR
  rw [List.set_comm _ _ h, List.getD_eq_getElem?_getD, List.getD_eq_getElem?_getD, List.getElem?_set_ne h, List.getD_eq_getElem?_getD, List.getD_eq_getElem?_getD, List.getElem?_set_ne (Ne.symm h)]
theorem fold_comm {xs : List Int} {a b : Int × Int} (h : a.1.toNat ≠ b.1.toNat) (l r : List (Int × Int)) : (l ++ a :: b :: r).foldl putR xs = (l ++ b :: a :: r).foldl putR xs := by
  rw [List.foldl_append, List.foldl_append, List.foldl_cons, List.foldl_cons, List.foldl_cons, List.foldl_cons, putR_comm h]
end Go.Proofs.YtidnjnhmkhekeaaDoor.M
namespace Go.Proofs.YtidnjnhmkhekeaaDoor.M
/-- Does a mask ask for all registers of some rules? -/
def hasA (m : Int) (rl : List (Int × List Int)) : Bool := rl.all fun c => bit m c.1.toNat
def surE (pub : Int) (q : Int × Int × Int × Int × Int) (nn : Int) (es : List (Int × Int)) (rl : List (Int × List Int)) : Int :=
  if chqE pub q nn = 0 then (if evE es = 0 then (if rulesE rl = 0 then (if digV (repV es) q.2.1 = q.2.2.1 then (if hasA q.2.1 rl = true then (if fitsB rl (repV es) = true then 0 else 6) else 5) else 3) else rulesE rl) else evE es) else chqE pub q nn
section
variable {pub nn : Int} {q : Int × Int × Int × Int × Int} {es : List (Int × Int)} {rl : List (Int × List Int)}
theorem sur_quo (h : ¬ chqE pub q nn = 0) : surE pub q nn es rl = chqE pub q nn := if_neg h
theorem sur_ev (h : chqE pub q nn = 0) (h2 : ¬ evE es = 0) : surE pub q nn es rl = evE es := by unfold surE; rw [if_pos h, if_neg h2]
theorem sur_rul (h : chqE pub q nn = 0) (h2 : evE es = 0) (h3 : ¬ rulesE rl = 0) : surE pub q nn es rl = rulesE rl := by unfold surE; rw [if_pos h, if_pos h2, if_neg h3]
theorem sur_dig (h : chqE pub q nn = 0) (h2 : evE es = 0) (h3 : rulesE rl = 0) (h4 : ¬ digV (repV es) q.2.1 = q.2.2.1) : surE pub q nn es rl = 3 := by unfold surE; rw [if_pos h, if_pos h2, if_pos h3, if_neg h4]
theorem sur_ask (h : chqE pub q nn = 0) (h2 : evE es = 0) (h3 : rulesE rl = 0) (h4 : digV (repV es) q.2.1 = q.2.2.1) (h5 : ¬ hasA q.2.1 rl = true) : surE pub q nn es rl = 5 := by unfold surE; rw [if_pos h, if_pos h2, if_pos h3, if_pos h4, if_neg h5]
theorem sur_fit (h : chqE pub q nn = 0) (h2 : evE es = 0) (h3 : rulesE rl = 0) (h4 : digV (repV es) q.2.1 = q.2.2.1) (h5 : hasA q.2.1 rl = true) (h6 : ¬ fitsB rl (repV es) = true) : surE pub q nn es rl = 6 := by unfold surE; rw [if_pos h, if_pos h2, if_pos h3, if_pos h4, if_pos h5, if_neg h6]
theorem sur_ok (h : chqE pub q nn = 0) (h2 : evE es = 0) (h3 : rulesE rl = 0) (h4 : digV (repV es) q.2.1 = q.2.2.1) (h5 : hasA q.2.1 rl = true) (h6 : fitsB rl (repV es) = true) : surE pub q nn es rl = 0 := by unfold surE; rw [if_pos h, if_pos h2, if_pos h3, if_pos h4, if_pos h5, if_pos h6]
theorem sur_zero (h : surE pub q nn es rl = 0) : chqE pub q nn = 0 ∧ evE es = 0 ∧ rulesE rl = 0 ∧ digV (repV es) q.2.1 = q.2.2.1 ∧ hasA q.2.1 rl = true ∧ fitsB rl (repV es) = true := by
  by_cases h1 : chqE pub q nn = 0
  · by_cases h2 : evE es = 0
    · by_cases h3 : rulesE rl = 0
      · by_cases h4 : digV (repV es) q.2.1 = q.2.2.1
        · by_cases h5 : hasA q.2.1 rl = true
          · by_cases h6 : fitsB rl (repV es) = true
            · exact ⟨h1, h2, h3, h4, h5, h6⟩
            · rw [sur_fit h1 h2 h3 h4 h5 h6] at h; cases h
          · rw [sur_ask h1 h2 h3 h4 h5] at h; cases h
        · rw [sur_dig h1 h2 h3 h4] at h; cases h
      · rw [sur_rul h1 h2 h3] at h; exact absurd h h3
    · rw [sur_ev h1 h2] at h; exact absurd h h2
  · rw [sur_quo h1] at h; exact absurd h h1
end
theorem chq_empty (pub n nn : Int) : ¬ chqE pub (n, 0, 0, 0, 0) nn = 0 := by
  intro h
  have hr : rigQ pub (n, 0, 0, 0, 0) = 1 := by
    unfold rigQ rigC
    rw [form_no (Or.inr (Or.inl (show inB 0 = false by decide)))]
    rfl
  cases hf : fitQ (n, 0, 0, 0, 0) nn with
  | false => rw [chqE_no hf] at h; cases h
  | true => rw [chqE_rig hf (by rw [hr]; decide), hr] at h; cases h
end Go.Proofs.YtidnjnhmkhekeaaDoor.M
namespace Go.Proofs.YtidnjnhmkhekeaaDoor.M
/-- The mask of rules that are right, register by register. -/
theorem maskV_bit {rl : List (Int × List Int)} (h : rulesE rl = 0) : (0 ≤ maskV rl ∧ maskV rl ≤ 255) ∧ ∀ k : Nat, k < 8 → bit (maskV rl) k = rl.any fun c => decide (c.1 = (k : Int)) := by
  obtain ⟨_, h2⟩ := rulesE_zero h
  obtain ⟨r1, r2⟩ := rules_regs rl [] h2
  obtain ⟨m1, m2⟩ := mask_bits rl 0 (by omega) (by omega) (fun c hc => ⟨(r1 c hc).1, bit_zero _⟩) r2
  refine ⟨⟨m1.1, by have := m1.2; show maskF 0 rl ≤ 255; omega⟩, fun k hk => ?_⟩
  show bit (maskF 0 rl) k = _
  rw [m2 k hk, bit_zero, Bool.or_false]
/-- Of the first registers: what the rules ask for, the mask asks for. -/
def allB (m am : Int) (k : Nat) : Bool := (List.range k).all fun i => !bit am i || bit m i
theorem allB_zero (m am : Int) : allB m am 0 = true := rfl
theorem allB_succ (m am : Int) (k : Nat) : allB m am (k + 1) = (allB m am k && (!bit am k || bit m k)) := by
  unfold allB
  rw [List.range_succ, List.all_append]
  simp
theorem hasA_all {m : Int} {rl : List (Int × List Int)} (h : rulesE rl = 0) : hasA m rl = allB m (maskV rl) 8 := by
  obtain ⟨_, hb⟩ := maskV_bit h
  obtain ⟨r1, _⟩ := rules_regs rl [] (rulesE_zero h).2
  rw [Bool.eq_iff_iff]
  unfold hasA allB
  rw [List.all_eq_true, List.all_eq_true]
  constructor
  · intro hh i hi
    have hi8 : i < 8 := List.mem_range.1 hi
    rw [hb i hi8]
    cases ha : rl.any (fun c => decide (c.1 = (i : Int))) with
    | false => rfl
    | true =>
      obtain ⟨c, hc, he⟩ := List.any_eq_true.1 ha
      have e := of_decide_eq_true he
      have := hh c hc
      rw [e, Int.toNat_natCast] at this
      rw [this]
      rfl
  · intro hh c hc
    have hr := isReg_iff.1 (r1 c hc).1
    have h1 := hh c.1.toNat (List.mem_range.2 (by omega))
    rw [hb c.1.toNat (by omega)] at h1
    have ha : rl.any (fun d => decide (d.1 = ((c.1.toNat : Nat) : Int))) = true := List.any_eq_true.2 ⟨c, hc, decide_eq_true (by omega)⟩
    rw [ha] at h1
    simpa using h1
/-- The quote that was made of the bank that the events come to. -/
theorem sur_own {x k n m : Int} {es : List (Int × Int)} {rl : List (Int × List Int)} (hq : quoE x k n m (repV es) = 0) (he : evE es = 0) (hr : rulesE rl = 0) :
    (surE (pwZ 64 x) (quoV x k n m (repV es)) n es rl = 0) ↔ (allB m (maskV rl) 8 && fitsB rl (repV es)) = true := by
  have hc := chq_own hq
  have e1 : (quoV x k n m (repV es)).2.1 = m := by rw [quoV_ok hq]
  have e2 : (quoV x k n m (repV es)).2.2.1 = digV (repV es) m := by rw [quoV_ok hq]
  rw [Bool.and_eq_true, ← hasA_all hr]
  constructor
  · intro h
    obtain ⟨_, _, _, _, h5, h6⟩ := sur_zero h
    rw [e1] at h5
    exact ⟨h5, h6⟩
  · rintro ⟨h5, h6⟩
    exact sur_ok hc he hr (by rw [e1, e2]) (by rw [e1]; exact h5) h6
end Go.Proofs.YtidnjnhmkhekeaaDoor.M
