/-
  Several texts in one: Plain mathematics on measures: one step modulo 1000003, a row of numbers taken step by step, a text taken byte by byte; nothing of the program stands here. / Plain laws, over any program, on rows of ints in memory: one that can be read, one that the call itself made, and what append makes of the latter; what string of one byte is. / Plain mathematics on banks of registers: a bank's cells, which registers a mask asks for, a bank's fault, what is extended, a digest, and whether two banks are alike; and what memory holds of a bank that was laid in a block. / Plain facts on blocks of memory, over any program: what a block held it holds, and a row of three ints laid in a block of its own. / Plain mathematics on images: which texts are of letters alone, what is wrong with an image, and that a search by runes for what is no letter finds one just where a byte is none. / The library's functions that the program reaches (strconv.Itoa, strconv.Atoi, stringslite.Clone, strings.Index, strings.ContainsFunc, bytes.IndexByte, stringslite.Index), held body by body against those of which the shelf's contracts speak. / Contracts of package image's isLetters, IsVersion and Check: whether a text is of letters alone, and what is wrong with an image; memory that was there stays as it was. / Plain mathematics on texts: which texts are numbers of at most four digits and that they are just those that are printed, and how a text is cut at blanks, whole or as far as four parts. / What the library's variables hold that strconv reads, and contracts of strconv.Itoa, strconv.Atoi and strings.Clone as the program calls them, over the shelf's; memory that was there stays as it was. / Contracts of package measure's functions (step, isMeasure, Two, row, All, Of) over this translation: what each returns, and that memory stays as it was. / Contracts of package image's Print, Measure and Newer: an image as text, its measure, and whether one is newer than another; memory that was there stays as it was. / Contract of package image's Clone over this translation: it returns the same image, and memory that was there stays as it was. / Plain mathematics on keys and seals: powers modulo 1543, that 64 is of order 257 there, that a seal is right by its key and with no other answer, and what two seals by one number tell. / What package key says, as plain functions: which numbers are secrets, which are of the group, the challenge, the public key, a seal, and what is wrong with one. / Contracts of package key's IsSecret, IsPublic, power and Public over this translation: what each returns, and that memory stays as it was. / Contracts of package key's challenge, Sign and Check over this translation: what each returns, and that memory that was there stays as it was. / Contracts of package key's Check and Hold over this translation: what each returns, and that memory that was there stays as it was. / Plain laws, over any program, on rows of records in memory, n cells each: one that can be read, one that the call itself made, and what append makes of the latter; how a slice of records among the arguments reads, opened. / Plain mathematics on certs: the last key of some and what is wrong with them, a cert that was made, certs that each one makes for the next, and that what is right goes on from its first part. / Plain mathematics on signed images: what is wrong with one that is made, and with one that is checked; that what is signed is right by its key, and with no other answer. / Contracts of package sign's Make and Check over this translation: what each returns, and that memory that was there stays as it was. / Plain laws, over any program, on worlds that are alike but for some blocks: what a call that writes to its own object alone leaves as it was; append to a row of ints of the call's own, with the block that it lies in. / Plain mathematics on counts: a least version of each name; what raising one makes of it, and what may be; the names that a law lays. / What is to be proved of package count's object, whatever it is made of: how it lies in memory, and what New, Raise, Least and May do to it. / Plain mathematics on two slots: which is picked, what putting, starting and being good make of them; there is always just one that is good. / What is to be proved of package slot's object, whatever it is made of: how it lies in memory, and what New, Put, Pick, Start, Good and At do to it. / Plain facts on a block of seventeen cells, two slots and which runs, over any program: what lies in a cell, what a store makes of it. / Plain laws, over any program, on things that lie apart in memory: each has its blocks, stays as it is while only others' blocks change, and one at a time may take a step. / Plain mathematics on updates: whether one may be done, and what doing it makes of two slots; what may be put is newer, right by the last key, and not below what was; and the same is not newer. / What is to be proved of package update's functions: what May and Do return, what becomes of the slots, and that all else stays as it was. / How an image among the arguments reads, opened: two strings and an int, each string no longer than the reach; and what the listed variables of the library give the walk. / How a slice of strings, of signed images and of ints among the arguments reads, opened: rows of records, each string no longer than the reach, each int in its bounds.
-/
import Derived.Below
import Derived.WalkKit
import Derived.ProofKit
import Derived.OwnWalk
import Derived.Laws.AppendOwnNone
import Derived.Laws.BytesArg
import Derived.Laws.Rows
import Derived.Laws.BitsLemmas
import Derived.Lib.DecodeN
import Derived.Shelf.GgClosure.StringsIndexFunc
import Derived.Shelf.Strconv.AtoiErr
import Derived.Shelf.Strconv.Itoa3
import Derived.Shelf.Strings.Search3
import Derived.Shelf.Strconv.Clone
import Derived.Shelf.Bytes.SlIndexAt
import Derived.Shelf.Strings.Search2
import Derived.Shelf.GgClosure.StringsIndexFuncTop
import Derived.Test.YtojdaifnljghkabGreatDoorProg
import Derived.Test.YtojdaifnljghkabGreatDoorRows
import Derived.Handy
import Derived.Lib.Atoi
import Derived.Lib.ItoaNum
import Derived.Lib.Split
import Derived.Lib.IndexBytes
import Derived.Shelf.Strconv.Atoi
import Derived.WalkSmall
import Derived.Lib.AtoiErrMem
import Derived.Deep.RegionHeld3
import Derived.Laws.Pointers
import Derived.Deep.WholeRow
import Derived.Laws.ResultCell
import Derived.Laws.CopyOwn
import Derived.Deep.DeepCutAuto
import Derived.Deep.QuietTactic
import Derived.BigQuiet
import Derived.OpenShut
import Derived.ChangeSame
import Derived.ChangeArms
import Derived.RowKit
import Derived.Maps.AppendAt
import Derived.SizedLaws
import Derived.Lib.LaidTab
import Derived.Stop.LaidErr
namespace Go.Proofs.YtojdaifnljghkabGreatDoor.M

theorem hide {p : Prop} (h : p) : Go.RowKit.Hid p := h

/-- One step of a measure. -/
def stp (t m n : Int) : Int := (t * m + n + 1) % 1000003
theorem stp_ge (t m n : Int) : 0 ≤ stp t m n := by unfold stp; omega
theorem stp_lt (t m n : Int) : stp t m n < 1000003 := by unfold stp; omega
theorem stp_inj (t m a b : Int) (ha : 0 ≤ a) (ha' : a < 1000003) (hb : 0 ≤ b) (hb' : b < 1000003) (h : stp t m a = stp t m b) : a = b := by
  unfold stp at h
  generalize t * m = q at h
  omega

/-- Is it a measure? -/
def isM (n : Int) : Bool := decide (0 ≤ n ∧ n < 1000003)
theorem isM_iff {n : Int} : isM n = true ↔ 0 ≤ n ∧ n < 1000003 := by unfold isM; simp
theorem isM_false {n : Int} : isM n = false ↔ ¬ (0 ≤ n ∧ n < 1000003) := by unfold isM; simp

/-- Are both measures? -/
def both (a b : Int) : Bool := isM a && isM b
theorem both_left {a b : Int} (h : isM a = true) : both a b = isM b := by unfold both; rw [h]; rfl
theorem both_no {a b : Int} (h : isM a = false) : both a b = false := by unfold both; rw [h]; rfl
theorem both_iff {a b : Int} : both a b = true ↔ isM a = true ∧ isM b = true := by unfold both; rw [Bool.and_eq_true]

/-- A row of numbers, step by step. -/
def allFrom (m : Int) (xs : List Int) : Int := xs.foldl (fun m x => stp 7919 m x) m
def okAll (xs : List Int) : Bool := xs.all isM
theorem take_one {α : Type} {xs : List α} {k : Nat} {x : α} (h : xs[k]? = some x) : xs.take (k + 1) = xs.take k ++ [x] := by
  rw [List.take_add_one, h]; rfl
theorem allFrom_take {m : Int} {xs : List Int} {k : Nat} {x : Int} (h : xs[k]? = some x) : allFrom m (xs.take (k + 1)) = stp 7919 (allFrom m (xs.take k)) x := by
  rw [take_one h]; simp [allFrom]
theorem allFrom_snoc (m : Int) (xs : List Int) (x : Int) : allFrom m (xs ++ [x]) = stp 7919 (allFrom m xs) x := by simp [allFrom]
theorem allFrom_range (m : Int) (xs : List Int) (h0 : 0 ≤ m) (h1 : m < 1000003) : 0 ≤ allFrom m xs ∧ allFrom m xs < 1000003 := by
  unfold allFrom
  induction xs generalizing m with
  | nil => exact ⟨h0, h1⟩
  | cons x r ih => exact ih (stp 7919 m x) (stp_ge _ _ _) (stp_lt _ _ _)
theorem okAll_of {xs : List Int} (h : ∀ (k : Nat) (x : Int), xs[k]? = some x → isM x = true) : okAll xs = true := by
  unfold okAll
  rw [List.all_eq_true]
  intro x hx
  obtain ⟨k, hk, e⟩ := List.mem_iff_getElem.1 hx
  exact h k x (by rw [List.getElem?_eq_getElem hk, e])
theorem okAll_at {xs : List Int} (h : okAll xs = true) {k : Nat} {x : Int} (hx : xs[k]? = some x) : isM x = true := by
  unfold okAll at h
  exact List.all_eq_true.1 h x (List.mem_of_getElem? hx)
theorem okAll_not {xs : List Int} {k : Nat} {x : Int} (hx : xs[k]? = some x) (hb : isM x = false) : okAll xs = false := by
  cases h : okAll xs with
  | false => rfl
  | true => rw [okAll_at h hx] at hb; cases hb
theorem okAll_snoc (xs : List Int) (x : Int) : okAll (xs ++ [x]) = (okAll xs && isM x) := by simp [okAll]

/-- A text, byte by byte. -/
def ofFrom (m : Int) (l : List UInt8) : Int := l.foldl (fun m c => stp 257 m c.toNat) m
theorem ofFrom_take {m : Int} {l : List UInt8} {k : Nat} {c : UInt8} (h : l[k]? = some c) : ofFrom m (l.take (k + 1)) = stp 257 (ofFrom m (l.take k)) c.toNat := by
  rw [take_one h]; simp [ofFrom]
theorem ofFrom_snoc (m : Int) (l : List UInt8) (c : UInt8) : ofFrom m (l ++ [c]) = stp 257 (ofFrom m l) c.toNat := by simp [ofFrom]
theorem ofFrom_range (m : Int) (l : List UInt8) (h0 : 0 ≤ m) (h1 : m < 1000003) : 0 ≤ ofFrom m l ∧ ofFrom m l < 1000003 := by
  unfold ofFrom
  induction l generalizing m with
  | nil => exact ⟨h0, h1⟩
  | cons x r ih => exact ih (stp 257 m x.toNat) (stp_ge _ _ _) (stp_lt _ _ _)
end Go.Proofs.YtojdaifnljghkabGreatDoor.M
namespace Go.Proofs.YtojdaifnljghkabGreatDoor.M
open Go.RowKit

/-- A slice of numbers that stand in memory: none at all, or a row of cells from one address on. -/
def Row (w : World) (a : Option Addr) (xs : List Int) : Prop :=
  xs = [] ∨ ∃ b off, a = some ⟨b, off, none⟩ ∧ ∀ (k : Nat) (x : Int), xs[k]? = some x → w.cell? ⟨b, off + k, none⟩ = some (.int .i64 x)

theorem add_none (b off k : Nat) : (⟨b, off, none⟩ : Addr).add k = ⟨b, off + k, none⟩ := by unfold Addr.add; split <;> simp_all

theorem Row.one (b : Nat) (n : Int) (w : World) (h : w.cell? ⟨b, 0, none⟩ = some (.int .i64 n)) : Row w (some ⟨b, 0, none⟩) [n] := by
  refine Or.inr ⟨b, 0, rfl, fun k x hx => ?_⟩
  cases k with
  | zero => simp at hx; subst hx; exact h
  | succ k => simp at hx
theorem Row.below {w w' : World} {a : Option Addr} {xs : List Int} (h : Row w a xs) (hb : Below w.heap.size w w') : Row w' a xs := by
  rcases h with h | ⟨b, off, ha, hc⟩
  · exact Or.inl h
  · refine Or.inr ⟨b, off, ha, fun k x hx => ?_⟩
    have h1 := hc k x hx
    rw [hb.cell (p := ⟨b, off + k, none⟩) (World.block_lt_of_cell? w _ h1)]
    exact h1

/-- An error value and its number: none is nought; else an error of type T that is an int. -/
def IsErr (T : TypeId) (v : Value) (k : Int) : Prop := (v = .nilIface ∧ k = 0) ∨ v = .iface T (.int .i64 k)
def errV (T : TypeId) (k : Int) : Value := if k = 0 then .nilIface else .iface T (.int .i64 k)
theorem isErr_errV (T : TypeId) (k : Int) : IsErr T (errV T k) k := by
  unfold errV
  by_cases h : k = 0
  · rw [if_pos h]; exact Or.inl ⟨rfl, h⟩
  · rw [if_neg h]; exact Or.inr rfl
theorem errV_zero (T : TypeId) : errV T 0 = .nilIface := rfl
theorem errV_one (T : TypeId) : errV T 1 = .iface T (.int .i64 1) := rfl

/-- The fault and the measure of a text, of two numbers, of a row. -/
def ofC (s : ByteArray) : Int := if 24 < s.size then 4 else 0
def ofV (s : ByteArray) : Int := if 24 < s.size then 0 else ofFrom 1 s.data.toList
def twoC (a b : Int) : Int := if isM a = true ∧ isM b = true then 0 else 1
def twoV (a b : Int) : Int := if isM a = true ∧ isM b = true then stp 7919 a b else 0
def allC (xs : List Int) : Int := if 30 < xs.length then 4 else if okAll xs = true then 0 else 1
def allV (xs : List Int) : Int := if 30 < xs.length then 0 else if okAll xs = true then allFrom 0 xs else 0
theorem twoC_ok {a b : Int} (ha : isM a = true) (hb : isM b = true) : twoC a b = 0 := if_pos ⟨ha, hb⟩
theorem twoV_ok {a b : Int} (ha : isM a = true) (hb : isM b = true) : twoV a b = stp 7919 a b := if_pos ⟨ha, hb⟩
theorem twoC_bad {a b : Int} (h : ¬ (isM a = true ∧ isM b = true)) : twoC a b = 1 := if_neg h
theorem twoV_bad {a b : Int} (h : ¬ (isM a = true ∧ isM b = true)) : twoV a b = 0 := if_neg h

/-- A row of ints that the call itself made. -/
def Own (w : World) (base : Nat) (e : TypeId) (v : Value) (xs : List Int) : Prop := w.ownsRow base e 1 v xs.length (xs.map (Value.int .i64))
theorem Own.nil (w : World) (base : Nat) (e : TypeId) : Own w base e (.slice none 0 0) [] := World.ownsRow_nil w base e 1
theorem Own.alloc {w : World} {base : Nat} {e : TypeId} {v : Value} {xs : List Int} (h : Own w base e v xs) (o : Obj) : Own (w.alloc o) base e v xs := World.ownsRow.alloc h o
theorem Own.row {w : World} {base : Nat} {e : TypeId} {v : Value} {xs : List Int} (h : Own w base e v xs) : ∃ a cap, v = .slice a xs.length cap ∧ (a = none → cap = 0) ∧ Row w a xs := by
  have h0 := h
  obtain ⟨_, h2⟩ := h
  rcases h2 with ⟨hv, hn⟩ | ⟨g, cap, cur, hv, _, _, _, _, _, _⟩
  · exact ⟨none, 0, by rw [hv, hn], fun _ => rfl, Or.inl (List.length_eq_zero_iff.1 hn)⟩
  · refine ⟨some ⟨g, 0, none⟩, cap, hv, fun hno => (by cases hno), Or.inr ⟨g, 0, rfl, fun k x hx => ?_⟩⟩
    have hc := World.ownsRow.cells (g := g) h0 (by rw [hv]; rfl) k (.int .i64 x) (by rw [List.getElem?_map, hx]; rfl)
    rw [add_none] at hc
    exact hc
theorem Own.block {w : World} {base : Nat} {e : TypeId} {v : Value} {xs : List Int} (h : Own w base e v xs) : ∀ k, v.ownBlock = some k → base ≤ k := fun k hk => (World.ownsRow.lt h k hk).1

/-- 'x = append(x, ys...)' where x is a row of ints of the call's own and ys can be read: a law for the walk. -/
theorem wpList_app {P : Program} {w : World} {ops : Array Oper} {rest : List Oper} {o : Oper} {a : Act} {Q : Exit → Act → World → Prop} (hgd : o.guard = none) (s x : Operand) (t : TypeId)
    (ho : o.op = .call { callee := .builtin .append, args := #[s, x], argTypes := #[t, t] })
    (base : Nat) (e : TypeId) (hinfo : (P.info? e).map (fun i => (i.zero, i.size, i.bytes)) = some (some (.int .i64 0), 1, 8)) (ht : P.underlying t = some (.slice e))
    (v : Value) (xs : List Int) (hs : a.eval s = v) (hown : Own w base e v xs)
    (ad : Option Addr) (m c : Nat) (ys : List Int) (hx : a.eval x = .slice ad m c) (hm : m = ys.length) (hc : ad = none → c = 0) (hrow : Row w ad ys)
    (hb : xs.length + ys.length ≤ 1000000) (hbase : base ≤ w.heap.size)
    (h : ∀ v' w', Own w' base e v' (xs ++ ys) → w.grownBy w' v.ownBlock → wpList P ops Q rest (a.put o.dst v') w') : wpList P ops Q (o :: rest) a w := by
  obtain ⟨i, hi, hz0, hz1, hz2⟩ := info_parts hinfo
  subst hm
  cases ad with
  | none =>
    have hy : ys = [] := by
      rcases hrow with h | ⟨b, off, h, _⟩
      · exact h
      · cases h
    subst hy
    rw [hc rfl] at hx
    refine wpList_append_own_none hgd s x t ho base e i 1 ht hi v xs.length _ hs hown hx (h v w (by simpa using hown) ⟨rfl, rfl, rfl, Nat.le_refl _, fun _ _ _ => rfl⟩)
  | some ad =>
    refine wpList_append_own w hgd s x t ho base e i (.int .i64 0) 1 8 ht hi hz0 hz1 hz2 rfl (by decide) v xs.length _ hs hown ad ys.length c (ys.map (Value.int .i64)) hx (by simp) ?_ ?_ (by unfold maxLen; omega) (by omega) hbase ?_
    · intro j u hj
      rw [List.getElem?_map] at hj
      obtain ⟨y, hy, rfl⟩ := Option.map_eq_some_iff.1 hj
      rcases hrow with h | ⟨b, off, h, hcell⟩
      · subst h; simp at hy
      · cases h
        rw [add_none]
        exact hcell j y hy
    · intro u hu
      obtain ⟨_, _, rfl⟩ := List.mem_map.1 hu
      rfl
    · intro v' w' h1 h2 _
      refine h v' w' ?_ h2
      have e1 : (xs ++ ys).length = xs.length + ys.length := by simp
      unfold Own
      rw [e1, List.map_append]
      exact h1

/-- string([]byte{c}). -/
theorem run_one_byte {P : Program} (src e dst : TypeId) (hs : P.underlying src = some (.slice e)) (he : P.underlying e = some (.int .u8)) (hd : P.underlying dst = some .string) (c : Int) (t : TypeId) (w : World) (b : Nat) (hb : w.heap.size = b) :
    (convert src dst (.slice (some ⟨b, 0, none⟩) 1 1)).run P (w.alloc (.cells #[.int .u8 c] t)) = .ok (.string (strOfNums [c])) (w.alloc (.cells #[.int .u8 c] t)) :=
  run_convert_bytes_arg _ src e hs he b 0 1 1 [c] rfl (fun i hi => by
    have : i = 0 := by omega
    subst this
    subst hb
    simp) dst hd
theorem app_one_size (s : ByteArray) (c : Int) : (s ++ strOfNums [c]).size = s.size + 1 := by
  rw [ByteArray.size_append, strOfNums_size]; rfl
theorem app_one_list (s : ByteArray) (c : Int) : (s ++ strOfNums [c]).data.toList = s.data.toList ++ [UInt8.ofNat c.toNat] := by
  rw [ByteArray.data_append, Array.toList_append, strOfNums_data]; rfl
theorem byte_back {c : Int} (h0 : 0 ≤ c) (h1 : c ≤ 255) : ((UInt8.ofNat c.toNat).toNat : Int) = c := by
  rw [UInt8.toNat_ofNat']
  omega
end Go.Proofs.YtojdaifnljghkabGreatDoor.M
namespace Go.Proofs.YtojdaifnljghkabGreatDoor.M
open Go.RowKit

/-- A bank's cells. -/
def bankC (xs : List Int) : Array Value := (xs.map (Value.int .i64)).toArray
theorem bankC_size (xs : List Int) : (bankC xs).size = xs.length := by simp [bankC]
theorem bankC_at {xs : List Int} {k : Nat} {x : Int} (h : xs[k]? = some x) : (bankC xs)[k]? = some (.int .i64 x) := by simp [bankC, h]
theorem bankC_set (xs : List Int) (k : Nat) (x : Int) : (bankC xs).setIfInBounds k (.int .i64 x) = bankC (xs.set k x) := by
  unfold bankC
  apply Array.ext'
  simp [List.map_set]
theorem bankC_inj {xs ys : List Int} (h : bankC xs = bankC ys) : xs = ys := by
  unfold bankC at h
  have h1 := congrArg Array.toList h
  simp only [] at h1
  exact (List.map_inj_right (fun a b e => by cases e; rfl)).1 h1

/-- Does a mask ask for a register? -/
def bit (m : Int) (k : Nat) : Bool := decide (m / 2 ^ k % 2 = 1)
theorem and_one (n : Int) : bits .and .i64 n 1 = n % 2 := by
  have h1 : (BitVec.ofInt 64 1).toNat = 2 ^ 1 - 1 := by decide
  have key : (BitVec.ofInt 64 n &&& BitVec.ofInt 64 1).toNat = (n % ((2 ^ 64 : Nat) : Int)).toNat % 2 ^ 1 := by
    rw [BitVec.toNat_and, BitVec.toNat_ofInt, h1, Nat.and_two_pow_sub_one_eq_mod]
  show IntKind.i64.wrap ((BitVec.ofInt 64 n &&& BitVec.ofInt 64 1).toNat : Nat) = n % 2
  rw [key, IntKind.wrap_i64]
  omega
theorem bit_yes {m : Int} {k : Nat} (h : bit m k = true) : bits .and .i64 (m / 2 ^ k) 1 = 1 := by
  rw [and_one]; unfold bit at h; simpa using h
theorem bit_no {m : Int} {k : Nat} (h : bit m k = false) : bits .and .i64 (m / 2 ^ k) 1 = 0 := by
  rw [and_one]; unfold bit at h
  have h1 : ¬ (m / 2 ^ k % 2 = 1) := by simpa using h
  generalize m / 2 ^ k = q at h1 ⊢
  omega
def isMask (m : Int) : Bool := decide (0 ≤ m ∧ m ≤ 255)
theorem isMask_iff {m : Int} : isMask m = true ↔ 0 ≤ m ∧ m ≤ 255 := by unfold isMask; simp
theorem isMask_false {m : Int} : isMask m = false ↔ ¬ (0 ≤ m ∧ m ≤ 255) := by unfold isMask; simp
/-- The registers that a mask asks for, below n. -/
def askedL (m : Int) (n : Nat) : List Int := ((List.range n).filter (bit m)).map fun k : Nat => (k : Int)
theorem askedL_zero (m : Int) : askedL m 0 = [] := rfl
theorem askedL_hit {m : Int} {n : Nat} (h : bit m n = true) : askedL m (n + 1) = askedL m n ++ [(n : Int)] := by simp [askedL, List.range_succ, h]
theorem askedL_miss {m : Int} {n : Nat} (h : bit m n = false) : askedL m (n + 1) = askedL m n := by simp [askedL, List.range_succ, h]
theorem askedL_len (m : Int) (n : Nat) : (askedL m n).length ≤ n := by
  unfold askedL
  rw [List.length_map]
  exact Nat.le_trans (List.length_filter_le _ _) (by simp)
theorem askedL_mem {m : Int} {n : Nat} {i : Int} (h : i ∈ askedL m n) : ∃ k : Nat, k < n ∧ i = k ∧ bit m k = true := by
  unfold askedL at h
  obtain ⟨k, hk, rfl⟩ := List.mem_map.1 h
  rw [List.mem_filter] at hk
  exact ⟨k, List.mem_range.1 hk.1, rfl, hk.2⟩
theorem askedL_of {m : Int} {n k : Nat} (hk : k < n) (h : bit m k = true) : (k : Int) ∈ askedL m n :=
  List.mem_map.2 ⟨k, List.mem_filter.2 ⟨List.mem_range.2 hk, h⟩, rfl⟩

/-- Those of a bank. -/
def pick (xs : List Int) (is : List Int) : List Int := is.map fun i => xs.getD i.toNat 0
theorem pick_take {xs is : List Int} {k : Nat} {i x : Int} (h : is[k]? = some i) (hx : xs[i.toNat]? = some x) : pick xs (is.take (k + 1)) = pick xs (is.take k) ++ [x] := by
  rw [take_one h]
  simp [pick, hx]
theorem pick_len (xs is : List Int) : (pick xs is).length = is.length := by simp [pick]
theorem pick_ok {xs : List Int} (h : okAll xs = true) (hl : xs.length = 8) (m : Int) : okAll (pick xs (askedL m 8)) = true := by
  refine okAll_of fun k x hx => ?_
  simp only [pick, List.getElem?_map, Option.map_eq_some_iff] at hx
  obtain ⟨i, hi, rfl⟩ := hx
  obtain ⟨j, hj, rfl, _⟩ := askedL_mem (List.mem_of_getElem? hi)
  have : xs[j]? = some (xs[j]'(by omega)) := List.getElem?_eq_getElem (by omega)
  simp only [Int.toNat_natCast, List.getD_eq_getElem?_getD, this, Option.getD_some]
  exact okAll_at h this

/-- A bank's fault; a digest's, and it; likeness. -/
def bankE (xs : List Int) : Int := if okAll xs = true then 0 else 1
def digE (xs : List Int) (m : Int) : Int := if okAll xs = true ∧ isMask m = true then 0 else 1
def digV (xs : List Int) (m : Int) : Int := if okAll xs = true ∧ isMask m = true then allFrom 0 (pick xs (askedL m 8)) else 0
def sameE (xs ys : List Int) (m : Int) : Int := if okAll xs = true ∧ okAll ys = true ∧ isMask m = true then 0 else 1
def differ (xs ys : List Int) (m : Int) : Bool := (askedL m 8).any fun i => xs.getD i.toNat 0 != ys.getD i.toNat 0
def sameV (xs ys : List Int) (m : Int) : Bool := if okAll xs = true ∧ okAll ys = true ∧ isMask m = true then !differ xs ys m else false
theorem bankE_ok {xs : List Int} (h : okAll xs = true) : bankE xs = 0 := if_pos h
theorem bankE_bad {xs : List Int} (h : okAll xs = false) : bankE xs = 1 := if_neg (by rw [h]; exact Bool.false_ne_true)
theorem digE_ok {xs : List Int} {m : Int} (h : okAll xs = true) (hm : isMask m = true) : digE xs m = 0 := if_pos ⟨h, hm⟩
theorem digV_ok {xs : List Int} {m : Int} (h : okAll xs = true) (hm : isMask m = true) : digV xs m = allFrom 0 (pick xs (askedL m 8)) := if_pos ⟨h, hm⟩
theorem digE_bad {xs : List Int} {m : Int} (h : ¬ (okAll xs = true ∧ isMask m = true)) : digE xs m = 1 := if_neg h
theorem digV_bad {xs : List Int} {m : Int} (h : ¬ (okAll xs = true ∧ isMask m = true)) : digV xs m = 0 := if_neg h
theorem sameE_ok {xs ys : List Int} {m : Int} (h : okAll xs = true) (h' : okAll ys = true) (hm : isMask m = true) : sameE xs ys m = 0 := if_pos ⟨h, h', hm⟩
theorem sameV_ok {xs ys : List Int} {m : Int} (h : okAll xs = true) (h' : okAll ys = true) (hm : isMask m = true) : sameV xs ys m = !differ xs ys m := if_pos ⟨h, h', hm⟩
theorem sameE_bad {xs ys : List Int} {m : Int} (h : ¬ (okAll xs = true ∧ okAll ys = true ∧ isMask m = true)) : sameE xs ys m = 1 := if_neg h
theorem sameV_bad {xs ys : List Int} {m : Int} (h : ¬ (okAll xs = true ∧ okAll ys = true ∧ isMask m = true)) : sameV xs ys m = false := if_neg h
/-- Extended: its fault, and the bank. -/
def isReg (i : Int) : Bool := decide (0 ≤ i ∧ i < 8)
theorem isReg_iff {i : Int} : isReg i = true ↔ 0 ≤ i ∧ i < 8 := by unfold isReg; simp
theorem isReg_false {i : Int} : isReg i = false ↔ ¬ (0 ≤ i ∧ i < 8) := by unfold isReg; simp
def extOk (xs : List Int) (i m : Int) : Bool := okAll xs && (isReg i && isM m)
theorem extOk_iff {xs : List Int} {i m : Int} : extOk xs i m = true ↔ okAll xs = true ∧ isReg i = true ∧ isM m = true := by unfold extOk; rw [Bool.and_eq_true, Bool.and_eq_true]
def extE (xs : List Int) (i m : Int) : Int := if extOk xs i m = true then 0 else 1
def noBank : List Int := [0, 0, 0, 0, 0, 0, 0, 0]
def extV (xs : List Int) (i m : Int) : List Int := if extOk xs i m = true then xs.set i.toNat (stp 7919 (xs.getD i.toNat 0) m) else noBank
theorem extE_ok {xs : List Int} {i m : Int} (h : extOk xs i m = true) : extE xs i m = 0 := if_pos h
theorem extV_ok {xs : List Int} {i m : Int} (h : extOk xs i m = true) : extV xs i m = xs.set i.toNat (stp 7919 (xs.getD i.toNat 0) m) := if_pos h
theorem extE_bad {xs : List Int} {i m : Int} (h : extOk xs i m = false) : extE xs i m = 1 := if_neg (by rw [h]; exact Bool.false_ne_true)
theorem extV_bad {xs : List Int} {i m : Int} (h : extOk xs i m = false) : extV xs i m = noBank := if_neg (by rw [h]; exact Bool.false_ne_true)
theorem extV_len {xs : List Int} (hl : xs.length = 8) (i m : Int) : (extV xs i m).length = 8 := by
  cases h : extOk xs i m with
  | true => rw [extV_ok h, List.length_set]; exact hl
  | false => rw [extV_bad h]; rfl

theorem any_bad (xs : List Int) : (xs.any fun x => !isM x) = !okAll xs := by
  unfold okAll
  induction xs with
  | nil => rfl
  | cons x r ih => simp only [List.any_cons, List.all_cons, ih]; cases isM x <;> simp

theorem heap_lt {w : World} {b : Nat} {o : Obj} (h : w.heap[b]? = some o) : b < w.heap.size := (Array.getElem?_eq_some_iff.1 h).1
/-- A bank that was laid in a block of its own. -/
theorem bank_cell {w : World} {b : Nat} {xs : List Int} {t : TypeId} {fr : Nat × Nat} (h : w.heap[b]? = some (.cells (bankC xs) t fr)) {k : Nat} {x : Int} (hx : xs[k]? = some x) : w.cell? ⟨b, k, none⟩ = some (.int .i64 x) := by
  rw [cell_of_row w b k _ t fr h]
  exact bankC_at hx
theorem bank_row {w : World} {b : Nat} {xs : List Int} {t : TypeId} {fr : Nat × Nat} (h : w.heap[b]? = some (.cells (bankC xs) t fr)) : Row w (some ⟨b, 0, none⟩) xs :=
  Or.inr ⟨b, 0, rfl, fun k x hx => by rw [Nat.zero_add]; exact bank_cell h hx⟩
end Go.Proofs.YtojdaifnljghkabGreatDoor.M
namespace Go.Proofs.YtojdaifnljghkabGreatDoor.M
open Go.RowKit

theorem blk_lt {w : World} {b : Nat} {o : Obj} (h : w.heap[b]? = some o) : b < w.heap.size := (Array.getElem?_eq_some_iff.1 h).1
theorem blk_below {w w' : World} {b : Nat} {o : Obj} (h : w.heap[b]? = some o) (hb : Below w.heap.size w w') : w'.heap[b]? = some o := (hb.block b (blk_lt h)).trans h
theorem blk_keep {w : World} {b : Nat} {o : Obj} (h : w.heap[b]? = some o) (o' : Obj) : (w.alloc o').heap[b]? = some o := (Go.RowKit.Below.heap_alloc w o' b (blk_lt h)).trans h
theorem blk_new (w : World) (o : Obj) : (w.alloc o).heap[w.heap.size]? = some o := by
  show (w.heap.push o)[w.heap.size]? = some o
  exact Array.getElem?_push_size
theorem below_new (w : World) (o : Obj) : Below w.heap.size w (w.alloc o) := (Below.refl _ w).alloc (Nat.le_refl _) o
theorem below_on {w w1 w2 : World} (h : Below w.heap.size w w1) (h2 : Below w1.heap.size w1 w2) : Below w.heap.size w w2 := h.trans (h2.mono h.size)
theorem Row.three {w : World} {b : Nat} {p q m : Int} {t : TypeId} {fr : Nat × Nat} (h : w.heap[b]? = some (.cells #[.int .i64 p, .int .i64 q, .int .i64 m] t fr)) : Row w (some ⟨b, 0, none⟩) [p, q, m] := by
  refine Or.inr ⟨b, 0, rfl, fun k x hx => ?_⟩
  have hc : ∀ j, w.cell? ⟨b, j, none⟩ = (#[Value.int .i64 p, .int .i64 q, .int .i64 m])[j]? := fun j => by rw [cell_of_row w b _ _ t fr h]
  rw [Nat.zero_add, hc]
  match k with
  | 0 => simp at hx; subst hx; rfl
  | 1 => simp at hx; subst hx; rfl
  | 2 => simp at hx; subst hx; rfl
  | k + 3 => simp at hx
/-- The cells of a seal, laid in a block of its own. -/
def sealC (p a : Int) : Array Value := #[.int .i64 p, .int .i64 a]
theorem seal_cells {w : World} {b : Nat} {p a : Int} {t : TypeId} {fr : Nat × Nat} (h : w.heap[b]? = some (.cells #[.int .i64 p, .int .i64 a] t fr)) :
    w.cell? ⟨b, 0, none⟩ = some (.int .i64 p) ∧ w.cell? ⟨b, 1, none⟩ = some (.int .i64 a) := by
  refine ⟨?_, ?_⟩ <;> rw [cell_of_row w b _ _ t fr h] <;> rfl
theorem seal_free {w : World} {b : Nat} {c : Array Value} {t : TypeId} (h : w.heap[b]? = some (.cells c t)) :
    w.frozen? ⟨b, 0, none⟩ = false ∧ w.frozen? ⟨b, 1, none⟩ = false := ⟨frozen_of_row w b 0 _ _ h, frozen_of_row w b 1 _ _ h⟩
theorem two_set {w : World} {b : Nat} {a0 a1 x y : Value} {t : TypeId} {fr : Nat × Nat} (hg : w.heap[b]? = some (.cells #[a0, a1] t fr)) :
    (w.setCell ⟨b, 0, none⟩ x).setCell ⟨b, 1, none⟩ y = w.setRow b #[x, y] := by
  rw [setCell_eq_setRow w b 0 _ _ _ x hg]
  have h1 := setRow_heap w b _ (#[a0, a1].setIfInBounds 0 x) t fr hg
  rw [setCell_eq_setRow _ b 1 _ _ _ y h1, setRow_setRow]
  rfl
end Go.Proofs.YtojdaifnljghkabGreatDoor.M
namespace Go.Proofs.YtojdaifnljghkabGreatDoor.M
open Go.RowKit

/-- Is a byte a letter from a to z? -/
def letB (b : UInt8) : Bool := decide (97 ≤ b.toNat ∧ b.toNat ≤ 122)
/-- Is a text of letters alone? -/
def letS (s : ByteArray) : Bool := s.data.toList.all letB
/-- A rune that is no letter. -/
def offR (r : Nat) : Bool := decide (r < 97) || decide (122 < r)
theorem offR_let (b : UInt8) : offR b.toNat = !letB b := by
  unfold offR letB
  by_cases h1 : b.toNat < 97
  · have : ¬ (97 ≤ b.toNat ∧ b.toNat ≤ 122) := by omega
    simp [h1, this]
  · by_cases h2 : 122 < b.toNat
    · have : ¬ (97 ≤ b.toNat ∧ b.toNat ≤ 122) := by omega
      simp [h1, h2, this]
    · have : 97 ≤ b.toNat ∧ b.toNat ≤ 122 := by omega
      simp [h1, h2, this]
theorem decodeN_high (n b0 b1 b2 b3 : Nat) (h : 128 ≤ b0) : 128 ≤ (Lib.decodeN n b0 b1 b2 b3).1 := by
  unfold Lib.decodeN
  rw [if_neg (by omega)]
  repeat' split
  all_goals (simp only []; omega)
theorem get_at {s : ByteArray} {i : Nat} {b : UInt8} (h : s.data.toList[i]? = some b) : s.get! i = b := by
  obtain ⟨d⟩ := s
  simp only [ByteArray.get!]
  rw [Array.getElem?_toList] at h
  simp [getElem!_def, h]
theorem decode_low {s : ByteArray} {i : Nat} {b : UInt8} (h : s.data.toList[i]? = some b) (hb : b.toNat < 128) : Utf8.decode s i = (b.toNat, 1) := by
  rw [Lib.decode_at, get_at h]
  unfold Lib.decodeN
  rw [if_pos hb]
theorem decode_high {s : ByteArray} {i : Nat} {b : UInt8} (h : s.data.toList[i]? = some b) (hb : ¬ b.toNat < 128) : 128 ≤ (Utf8.decode s i).1 := by
  rw [Lib.decode_at, get_at h]
  exact decodeN_high _ _ _ _ _ (by omega)
theorem len_size (s : ByteArray) : s.data.toList.length = s.size := Array.length_toList
theorem idx_from (s : ByteArray) : ∀ (f pos : Nat), s.size ≤ pos + f → decide (0 ≤ Lib.idxFuncFrom offR true s f pos) = !(s.data.toList.drop pos).all letB
  | 0, pos, h => by
    have e : s.data.toList.drop pos = [] := by
      apply List.drop_eq_nil_of_le
      have := len_size s
      omega
    rw [e]
    simp [Lib.idxFuncFrom]
  | f + 1, pos, h => by
    have hl := len_size s
    unfold Lib.idxFuncFrom
    by_cases hp : pos < s.size
    · obtain ⟨b, hb⟩ : ∃ b, s.data.toList[pos]? = some b := ⟨s.data.toList[pos]'(by omega), List.getElem?_eq_getElem (by omega)⟩
      have hd : s.data.toList.drop pos = b :: s.data.toList.drop (pos + 1) := by
        rw [List.drop_eq_getElem_cons (by omega)]
        congr 1
        rw [List.getElem?_eq_getElem (by omega)] at hb
        exact Option.some.inj hb
      rw [if_pos hp, hd, List.all_cons]
      by_cases h128 : b.toNat < 128
      · rw [decode_low hb h128]
        simp only []
        rw [offR_let]
        cases hB : letB b with
        | false => simp
        | true =>
          have := idx_from s f (pos + 1) (by omega)
          simp only [Bool.not_true, Bool.false_eq_true, if_false, Bool.true_and]
          exact this
      · have hh := decode_high hb h128
        have ho : offR (Utf8.decode s pos).1 = true := by unfold offR; simp; omega
        have hB : letB b = false := by unfold letB; simp; omega
        rw [if_pos ho, hB]
        simp
    · rw [if_neg hp]
      have e : s.data.toList.drop pos = [] := List.drop_eq_nil_of_le (by omega)
      rw [e]
      simp
theorem idx_letters (s : ByteArray) : decide (0 ≤ Lib.idxFunc offR true s) = !letS s := by
  unfold Lib.idxFunc letS
  rw [idx_from s s.size 0 (by omega), List.drop_zero]

/-- What is wrong with an image: the number of the error, 0 for none. -/
def imgE (nm : ByteArray) (v : Int) (cd : ByteArray) : Int :=
  if nm.size = 0 ∨ letS nm = false ∨ letS cd = false then 3 else if 8 < nm.size ∨ 8 < cd.size then 4 else if v < 1 ∨ 1000 < v then 1 else 0
theorem imgE_shape {nm cd : ByteArray} {v : Int} (h : nm.size = 0 ∨ letS nm = false ∨ letS cd = false) : imgE nm v cd = 3 := by unfold imgE; rw [if_pos h]
theorem imgE_full {nm cd : ByteArray} {v : Int} (h : ¬ nm.size = 0) (ha : letS nm = true) (hb : letS cd = true) (hf : 8 < nm.size ∨ 8 < cd.size) : imgE nm v cd = 4 := by
  unfold imgE; rw [if_neg (by simp [h, ha, hb]), if_pos hf]
theorem imgE_range {nm cd : ByteArray} {v : Int} (h : ¬ nm.size = 0) (ha : letS nm = true) (hb : letS cd = true) (hf : ¬ (8 < nm.size ∨ 8 < cd.size)) (hr : v < 1 ∨ 1000 < v) : imgE nm v cd = 1 := by
  unfold imgE; rw [if_neg (by simp [h, ha, hb]), if_neg hf, if_pos hr]
theorem imgE_none {nm cd : ByteArray} {v : Int} (h : ¬ nm.size = 0) (ha : letS nm = true) (hb : letS cd = true) (hf : ¬ (8 < nm.size ∨ 8 < cd.size)) (hr : ¬ (v < 1 ∨ 1000 < v)) : imgE nm v cd = 0 := by
  unfold imgE; rw [if_neg (by simp [h, ha, hb]), if_neg hf, if_neg hr]
theorem imgE_zero {nm cd : ByteArray} {v : Int} (h : imgE nm v cd = 0) : nm.size ≠ 0 ∧ letS nm = true ∧ letS cd = true ∧ nm.size ≤ 8 ∧ cd.size ≤ 8 ∧ 1 ≤ v ∧ v ≤ 1000 := by
  unfold imgE at h
  split at h
  · cases h
  · rename_i h1
    split at h
    · cases h
    · rename_i h2
      split at h
      · cases h
      · rename_i h3
        refine ⟨fun e => h1 (Or.inl e), ?_, ?_, by omega, by omega, by omega, by omega⟩
        · cases e : letS nm with
          | true => rfl
          | false => exact absurd (Or.inr (Or.inl e)) h1
        · cases e : letS cd with
          | true => rfl
          | false => exact absurd (Or.inr (Or.inr e)) h1
/-- The cells of an image. -/
def imgC (nm : ByteArray) (v : Int) (cd : ByteArray) : Array Value := #[.string nm, .int .i64 v, .string cd]
/-- An image that was laid in a block of its own. -/
theorem img_cells {w : World} {b : Nat} {nm cd : ByteArray} {v : Int} {t : TypeId} {fr : Nat × Nat} (h : w.heap[b]? = some (.cells (imgC nm v cd) t fr)) :
    w.cell? ⟨b, 0, none⟩ = some (.string nm) ∧ w.cell? ⟨b, 1, none⟩ = some (.int .i64 v) ∧ w.cell? ⟨b, 2, none⟩ = some (.string cd) := by
  refine ⟨?_, ?_, ?_⟩ <;> rw [cell_of_row w b _ _ t fr h] <;> rfl
/-- A version is from 1 to 1000. -/
def verB (v : Int) : Bool := decide (1 ≤ v ∧ v ≤ 1000)
theorem verB_is {v : Int} (h1 : 1 ≤ v) (h2 : v ≤ 1000) : verB v = true := decide_eq_true ⟨h1, h2⟩
theorem verB_not {v : Int} (h : v < 1 ∨ 1000 < v) : verB v = false := decide_eq_false (by omega)
theorem verB_yes {v : Int} (h : verB v = true) : 1 ≤ v ∧ v ≤ 1000 := of_decide_eq_true h
theorem verB_no {v : Int} (h : verB v = false) : v < 1 ∨ 1000 < v := by
  have := of_decide_eq_false h
  omega
end Go.Proofs.YtojdaifnljghkabGreatDoor.M
namespace Go.Proofs
open Go.Shelf
def Tryz.lays171_ren : Go.Shelf.Ren := ⟨fun | 171 => 100 | 243 => 127 | 246 => 143 | 283 => 149 | 284 => 150 | 285 => 151 | 286 => 152 | 129 => 155 | 317 => 154 | 318 => 156 | 319 => 157 | 320 => 158 | 337 => 159 | 338 => 160 | n => n, fun | 3 => 3 | 9 => 9 | 2 => 2 | 4 => 4 | 171 => 224 | 0 => 0 | 53 => 225 | 37 => 203 | 5 => 5 | 173 => 228 | 212 => 232 | 51 => 233 | 20 => 20 | 213 => 234 | 46 => 235 | 232 => 238 | 233 => 239 | n => n, fun | 17 => 1 | 18 => 2 | 19 => 3 | n => n⟩
theorem Tryz.lays171 : Go.Proofs.LaysM.n171 Tryz.prog Tryz.lays171_ren := {
  mixed := by kernel_rfl
  f129 := Tryz.func155.trans (congrArg some (by kernel_rfl))
  f171 := Tryz.func100.trans (congrArg some (by kernel_rfl))
  f243 := Tryz.func127.trans (congrArg some (by kernel_rfl))
  f246 := Tryz.func143.trans (congrArg some (by kernel_rfl))
  f283 := Tryz.func149.trans (congrArg some (by kernel_rfl))
  f284 := Tryz.func150.trans (congrArg some (by kernel_rfl))
  f285 := Tryz.func151.trans (congrArg some (by kernel_rfl))
  f286 := Tryz.func152.trans (congrArg some (by kernel_rfl))
  f317 := Tryz.func154.trans (congrArg some (by kernel_rfl))
  f318 := Tryz.func156.trans (congrArg some (by kernel_rfl))
  f319 := Tryz.func157.trans (congrArg some (by kernel_rfl))
  f320 := Tryz.func158.trans (congrArg some (by kernel_rfl))
  f337 := Tryz.func159.trans (congrArg some (by kernel_rfl))
  f338 := Tryz.func160.trans (congrArg some (by kernel_rfl))
  t0 := Tryz.underlying0
  a0 := Tryz.isAgg0
  z0 := Tryz.sizeOf0
  v0 := Tryz.zeroValue0
  t2 := Tryz.underlying2
  a2 := Tryz.isAgg2
  z2 := Tryz.sizeOf2
  v2 := Tryz.zeroValue2
  t3 := Tryz.underlying3
  a3 := Tryz.isAgg3
  z3 := Tryz.sizeOf3
  v3 := Tryz.zeroValue3
  t4 := Tryz.underlying4
  a4 := Tryz.isAgg4
  z4 := Tryz.sizeOf4
  v4 := Tryz.zeroValue4
  t5 := Tryz.underlying5
  a5 := Tryz.isAgg5
  z5 := Tryz.sizeOf5
  v5 := Tryz.zeroValue5
  t9 := Tryz.underlying9
  a9 := Tryz.isAgg9
  z9 := Tryz.sizeOf9
  v9 := Tryz.zeroValue9
  t20 := Tryz.underlying20
  a20 := Tryz.isAgg20
  z20 := Tryz.sizeOf20
  v20 := Tryz.zeroValue20
  t37 := Tryz.underlying203
  a37 := Tryz.isAgg203
  z37 := Tryz.sizeOf203
  v37 := Tryz.zeroValue203
  t46 := Tryz.underlying235
  a46 := Tryz.isAgg235
  z46 := Tryz.sizeOf235
  v46 := Tryz.zeroValue235
  t51 := Tryz.underlying233
  a51 := Tryz.isAgg233
  z51 := Tryz.sizeOf233
  v51 := Tryz.zeroValue233
  t53 := Tryz.underlying225
  a53 := Tryz.isAgg225
  z53 := Tryz.sizeOf225
  v53 := Tryz.zeroValue225
  t171 := Tryz.underlying224
  a171 := Tryz.isAgg224
  z171 := Tryz.sizeOf224
  v171 := Tryz.zeroValue224
  t173 := Tryz.underlying228
  a173 := Tryz.isAgg228
  z173 := Tryz.sizeOf228
  v173 := Tryz.zeroValue228
  t212 := Tryz.underlying232
  a212 := Tryz.isAgg232
  z212 := Tryz.sizeOf232
  v212 := Tryz.zeroValue232
  t213 := Tryz.underlying234
  a213 := Tryz.isAgg234
  z213 := Tryz.sizeOf234
  t232 := Tryz.underlying238
  a232 := Tryz.isAgg238
  z232 := Tryz.sizeOf238
  v232 := Tryz.zeroValue238
  t233 := Tryz.underlying239
  a233 := Tryz.isAgg239
  z233 := Tryz.sizeOf239
  v233 := Tryz.zeroValue239
  g17 := by kernel_rfl
  g18 := by kernel_rfl
  g19 := by kernel_rfl
  i0 := by kernel_rfl
  i2 := by kernel_rfl
  i3 := by kernel_rfl
  i4 := by kernel_rfl
  i5 := by kernel_rfl
  i9 := by kernel_rfl
  i20 := by kernel_rfl
  i37 := by kernel_rfl
  i46 := by kernel_rfl
  i51 := by kernel_rfl
  i53 := by kernel_rfl
  i171 := by kernel_rfl
  i173 := by kernel_rfl
  i212 := by kernel_rfl
  i232 := by kernel_rfl
  i233 := by kernel_rfl
  m17 := by kernel_rfl
  m18 := by kernel_rfl
  m19 := by kernel_rfl }
def Tryz.lays316_ren : Go.Shelf.Ren := ⟨fun | 316 => 118 | n => n, fun | 9 => 9 | 3 => 3 | 4 => 4 | 37 => 203 | 0 => 0 | 127 => 204 | 5 => 5 | n => n, fun | n => n⟩
theorem Tryz.lays316 : Go.Proofs.LaysM.n316 Tryz.prog Tryz.lays316_ren := {
  mixed := by kernel_rfl
  f316 := Tryz.func118.trans (congrArg some (by kernel_rfl))
  t0 := Tryz.underlying0
  a0 := Tryz.isAgg0
  z0 := Tryz.sizeOf0
  v0 := Tryz.zeroValue0
  t3 := Tryz.underlying3
  a3 := Tryz.isAgg3
  z3 := Tryz.sizeOf3
  v3 := Tryz.zeroValue3
  t4 := Tryz.underlying4
  a4 := Tryz.isAgg4
  z4 := Tryz.sizeOf4
  v4 := Tryz.zeroValue4
  t9 := Tryz.underlying9
  a9 := Tryz.isAgg9
  z9 := Tryz.sizeOf9
  v9 := Tryz.zeroValue9
  t37 := Tryz.underlying203
  a37 := Tryz.isAgg203
  z37 := Tryz.sizeOf203
  v37 := Tryz.zeroValue203
  t127 := Tryz.underlying204
  a127 := Tryz.isAgg204
  z127 := Tryz.sizeOf204
  v127 := Tryz.zeroValue204
  t5 := Tryz.underlying5
  a5 := Tryz.isAgg5
  z5 := Tryz.sizeOf5
  v5 := Tryz.zeroValue5
  i0 := by kernel_rfl
  i3 := by kernel_rfl
  i4 := by kernel_rfl
  i5 := by kernel_rfl
  i9 := by kernel_rfl
  i37 := by kernel_rfl
  i127 := by kernel_rfl }
def Tryz.lays17_ren : Go.Shelf.Ren := ⟨fun | 17 => 135 | 15 => 148 | 20 => 153 | n => n, fun | 9 => 9 | 23 => 202 | 4 => 4 | 3 => 3 | 0 => 0 | 21 => 21 | n => n, fun | n => n⟩
theorem Tryz.lays17 : Go.Proofs.LaysGw.n17 Tryz.prog Tryz.lays17_ren := {
  mixed := by kernel_rfl
  f15 := Tryz.func148.trans (congrArg some (by kernel_rfl))
  f17 := Tryz.func135.trans (congrArg some (by kernel_rfl))
  f20 := Tryz.func153.trans (congrArg some (by kernel_rfl))
  t0 := Tryz.underlying0
  a0 := Tryz.isAgg0
  z0 := Tryz.sizeOf0
  v0 := Tryz.zeroValue0
  i0 := by kernel_rfl
  t3 := Tryz.underlying3
  a3 := Tryz.isAgg3
  z3 := Tryz.sizeOf3
  v3 := Tryz.zeroValue3
  i3 := by kernel_rfl
  t4 := Tryz.underlying4
  a4 := Tryz.isAgg4
  z4 := Tryz.sizeOf4
  v4 := Tryz.zeroValue4
  i4 := by kernel_rfl
  t9 := Tryz.underlying9
  a9 := Tryz.isAgg9
  z9 := Tryz.sizeOf9
  v9 := Tryz.zeroValue9
  i9 := by kernel_rfl
  t21 := Tryz.underlying21
  a21 := Tryz.isAgg21
  z21 := Tryz.sizeOf21
  v21 := Tryz.zeroValue21
  i21 := by kernel_rfl
  t23 := Tryz.underlying202
  a23 := Tryz.isAgg202
  z23 := Tryz.sizeOf202
  v23 := Tryz.zeroValue202
  i23 := by kernel_rfl }
end Go.Proofs
namespace Go.Proofs.YtojdaifnljghkabGreatDoor.Image
open Go.ChangeShapes Go.WideShapes Go.ChangeAt Go.RowKit
open Go.Proofs.YtojdaifnljghkabGreatDoor.M
set_option linter.unusedVariables false

theorem off_any (r : Nat) (w : World) : Calls Tryz.prog 136 #[.int .i32 r] w fun e w' => e = .returned (.bool (offR r)) ∧ w' = w := by
  by_cases h1 : r < 97
  · have hz : (r : Int) < 97 := by omega
    have E := hide (show offR r = true by unfold offR; simp [h1])
    clear h1
    go_enter Tryz.func136, Tryz.ntmps136
    go_wp2
    go_ret
    exact ⟨by rw [E.out]; rfl, rfl⟩
  · have hz : ¬ (r : Int) < 97 := by omega
    by_cases h2 : 122 < r
    · have hy : (122 : Int) < r := by omega
      have E := hide (show offR r = true by unfold offR; simp [h1, h2])
      clear h1 h2
      go_enter Tryz.func136, Tryz.ntmps136
      go_wp2
      go_ret
      exact ⟨by rw [E.out]; rfl, rfl⟩
    · have hy : ¬ (122 : Int) < r := by omega
      have E := hide (show offR r = false by unfold offR; simp [h1, h2])
      clear h1 h2
      go_enter Tryz.func136, Tryz.ntmps136
      go_wp2
      go_ret
      exact ⟨by rw [E.out]; rfl, rfl⟩

theorem pred (w : World) : PredAt Tryz.prog 136 #[] encR offR w := fun W r _ =>
  (off_any r W).mono fun _ _ ⟨he, hw⟩ => ⟨he, 0, hw⟩

theorem contains_any (s : ByteArray) (w : World) :
    Calls Tryz.prog 135 #[.string s, .func (.func 136) #[] #[]] w fun e w' => e = .returned (.bool (!letS s)) ∧ Below w.heap.size w w' := by
  have h := Any.strings_ContainsFunc Tryz.lays17 136 #[] (enters_of Tryz.func136 (by kernel_rfl) rfl) offR s w (pred w)
  rw [idx_letters] at h
  exact h

theorem letters_any (s : ByteArray) (w : World) :
    Calls Tryz.prog 114 #[.string s] w fun e w' => e = .returned (.bool (letS s)) ∧ Below w.heap.size w w' := by
  go_enter Tryz.func114, Tryz.ntmps114
  go_wp2_with (go_at_call 135; refine (contains_any s _).mono ?_; rintro e w' ⟨rfl, hb⟩)
  go_ret
  exact ⟨by simp, hb⟩

theorem empty_is {s : ByteArray} (h : s.size = 0) : s.toList.isEmpty = true := by
  rw [Lib.toList_data]
  have := len_size s
  cases e : s.data.toList with
  | nil => rfl
  | cons a l => rw [e, List.length_cons] at this; omega
theorem empty_not {s : ByteArray} (h : ¬ s.size = 0) : s.toList.isEmpty = false := by
  rw [Lib.toList_data]
  have := len_size s
  cases e : s.data.toList with
  | nil => rw [e, List.length_nil] at this; omega
  | cons a l => rfl

theorem version_any (v : Int) (w : World) : Calls Tryz.prog 115 #[.int .i64 v] w fun e w' => e = .returned (.bool (verB v)) ∧ w' = w := by
  by_cases h1 : 1 ≤ v
  · by_cases h2 : v ≤ 1000
    · have E := hide (verB_is h1 h2)
      go_enter Tryz.func115, Tryz.ntmps115
      go_wp2
      go_ret
      exact ⟨by rw [E.out]; rfl, rfl⟩
    · have E := hide (verB_not (v := v) (Or.inr (by omega)))
      go_enter Tryz.func115, Tryz.ntmps115
      go_wp2
      go_ret
      exact ⟨by rw [E.out]; rfl, rfl⟩
  · have E := hide (verB_not (v := v) (Or.inl (by omega)))
    go_enter Tryz.func115, Tryz.ntmps115
    go_wp2
    go_ret
    exact ⟨by rw [E.out]; rfl, rfl⟩

set_option maxHeartbeats 4000000 in
theorem check_any (nm cd : ByteArray) (v : Int) (w : World) (hn : nm.size ≤ 140737488351232) (hc : cd.size ≤ 140737488351232) :
    Calls Tryz.prog 82 #[.agg (imgC nm v cd)] w fun e w' => e = .returned (errV 96 (imgE nm v cd)) ∧ Below w.heap.size w w' := by
  have HB := hide (below_new w (.cells (imgC nm v cd) 23))
  have HG := hide (blk_new w (.cells (imgC nm v cd) 23))
  by_cases h0 : nm.size = 0
  · have E := hide (imgE_shape (nm := nm) (cd := cd) (v := v) (Or.inl h0))
    have h1 := empty_is h0
    clear h0
    unfold imgC at HB ⊢
    go_enter Tryz.func82, Tryz.ntmps82
    go_wp2
    go_ret
    exact ⟨by rw [E.out]; rfl, HB.out⟩
  · have h1 := empty_not h0
    have H0 := hide h0
    clear h0
    unfold imgC at HB HG ⊢
    go_enter Tryz.func82, Tryz.ntmps82
    go_wp2_with (fail)
    refine (letters_any nm _).mono ?_
    rintro e w1 ⟨rfl, hb1⟩
    have HB1 := hide (below_on HB.out hb1)
    have HG1 := hide (blk_below HG.out hb1)
    clear hb1 HB HG
    obtain ⟨c10, c11, c12⟩ := img_cells HG1.out
    cases ha : letS nm with
    | false =>
      have E := hide (imgE_shape (nm := nm) (cd := cd) (v := v) (Or.inr (Or.inl ha)))
      clear ha
      go_wp2
      go_ret
      exact ⟨by rw [E.out]; rfl, HB1.out⟩
    | true =>
      have HA := hide ha
      clear ha
      go_wp2_with (fail)
      refine (letters_any cd _).mono ?_
      rintro e w2 ⟨rfl, hb2⟩
      have HB2 := hide (below_on HB1.out hb2)
      have HG2 := hide (blk_below HG1.out hb2)
      clear hb2 HB1 HG1 c10 c11 c12
      obtain ⟨c20, c21, c22⟩ := img_cells HG2.out
      cases hb : letS cd with
      | false =>
        have E := hide (imgE_shape (nm := nm) (cd := cd) (v := v) (Or.inr (Or.inr hb)))
        clear hb
        go_wp2
        go_ret
        exact ⟨by rw [E.out]; rfl, HB2.out⟩
      | true =>
        have HC := hide hb
        clear hb
        by_cases h8 : 8 < nm.size
        · have E := hide (imgE_full (v := v) H0.out HA.out HC.out (Or.inl h8))
          have h8' : (8 : Int) < nm.size := by omega
          clear h8
          go_wp2
          go_ret
          exact ⟨by rw [E.out]; rfl, HB2.out⟩
        · have h8' : ¬ (8 : Int) < nm.size := by omega
          by_cases h9 : 8 < cd.size
          · have E := hide (imgE_full (v := v) H0.out HA.out HC.out (Or.inr h9))
            have h9' : (8 : Int) < cd.size := by omega
            clear h8 h9
            go_wp2
            go_ret
            exact ⟨by rw [E.out]; rfl, HB2.out⟩
          · have h9' : ¬ (8 : Int) < cd.size := by omega
            have HF := hide (show ¬ (8 < nm.size ∨ 8 < cd.size) by omega)
            clear h8 h9
            cases hv : verB v with
            | false =>
              have E := hide (imgE_range H0.out HA.out HC.out HF.out (verB_no hv))
              go_wp2_with (go_at_call 115; refine (version_any v _).mono ?_; rintro e w3 ⟨rfl, rfl⟩; rw [hv])
              go_ret
              exact ⟨by rw [E.out]; rfl, HB2.out⟩
            | true =>
              have E := hide (imgE_none (v := v) H0.out HA.out HC.out HF.out (fun hh => by have := verB_yes hv; omega))
              go_wp2_with (go_at_call 115; refine (version_any v _).mono ?_; rintro e w3 ⟨rfl, rfl⟩; rw [hv])
              go_ret
              exact ⟨by rw [E.out]; rfl, HB2.out⟩
end Go.Proofs.YtojdaifnljghkabGreatDoor.Image
namespace Go.Proofs.YtojdaifnljghkabGreatDoor.M
open Go.RowKit

theorem decFrom_ge : ∀ (l : List UInt8) (acc m : Nat), Lib.decFrom acc l = some m → acc ≤ m
  | [], acc, m, h => by simp only [Lib.decFrom, Option.some.injEq] at h; omega
  | b :: r, acc, m, h => by
    simp only [Lib.decFrom] at h
    cases hd : Lib.digitVal b with
    | none => rw [hd] at h; cases h
    | some d => rw [hd] at h; have := decFrom_ge r _ m h; omega
theorem decFrom_snoc : ∀ (l : List UInt8) (acc : Nat) (b : UInt8), Lib.decFrom acc (l ++ [b]) = (Lib.decFrom acc l).bind fun m => (Lib.digitVal b).map fun d => m * 10 + d
  | [], acc, b => by
    simp only [List.nil_append, Lib.decFrom, Option.bind_some]
    cases Lib.digitVal b <;> rfl
  | c :: r, acc, b => by
    simp only [List.cons_append, Lib.decFrom]
    cases Lib.digitVal c with
    | none => rfl
    | some d => exact decFrom_snoc r _ b
theorem digit_ofNat {d : Nat} (h : d < 10) : Lib.digitVal (UInt8.ofNat (48 + d)) = some d := by
  have e : (UInt8.ofNat (48 + d)).toNat = 48 + d := by simp; omega
  unfold Lib.digitVal
  rw [e, if_pos (by omega)]
  congr 1
  omega
theorem ofNat_digit {b : UInt8} {d : Nat} (h : Lib.digitVal b = some d) : UInt8.ofNat (48 + d) = b ∧ d < 10 := by
  obtain ⟨h1, h2, rfl⟩ := Lib.digitVal_eq h
  refine ⟨?_, by omega⟩
  rw [show 48 + (b.toNat - 48) = b.toNat by omega]
  exact UInt8.ofNat_toNat
theorem dec_small {n : Nat} (h : n < 10) : Lib.decDigits n = [UInt8.ofNat (48 + n)] := by rw [Lib.decDigits, dif_pos h]
theorem dec_big {n : Nat} (h : ¬ n < 10) : Lib.decDigits n = Lib.decDigits (n / 10) ++ [UInt8.ofNat (48 + n % 10)] := by rw [Lib.decDigits, dif_neg h]
theorem dec_ne (n : Nat) : Lib.decDigits n ≠ [] := by
  by_cases h : n < 10
  · rw [dec_small h]; simp
  · rw [dec_big h]; simp
theorem decFrom_dec : ∀ (k n : Nat), n ≤ k → Lib.decFrom 0 (Lib.decDigits n) = some n
  | k, n, hk => by
    by_cases h : n < 10
    · rw [dec_small h]
      simp only [Lib.decFrom, digit_ofNat h]
      congr 1
      omega
    · cases k with
      | zero => omega
      | succ k =>
        rw [dec_big h, decFrom_snoc, decFrom_dec k (n / 10) (by omega), Option.bind_some, digit_ofNat (Nat.mod_lt _ (by omega))]
        simp only [Option.map_some]
        congr 1
        omega
theorem head_snoc {α : Type} {l : List α} (h : l ≠ []) (b : α) : (l ++ [b]).head? = l.head? := by
  cases l with
  | nil => exact absurd rfl h
  | cons a r => rfl
theorem dec_head : ∀ (k n : Nat), n ≤ k → (Lib.decDigits n).head? = some 48 → n = 0
  | k, n, hk, hh => by
    by_cases h : n < 10
    · rw [dec_small h] at hh
      have e := Option.some.inj hh
      have e2 : (UInt8.ofNat (48 + n)).toNat = 48 := by rw [e]; rfl
      have e3 : (UInt8.ofNat (48 + n)).toNat = 48 + n := by simp; omega
      omega
    · cases k with
      | zero => omega
      | succ k =>
        rw [dec_big h, head_snoc (dec_ne _)] at hh
        have := dec_head k (n / 10) (by omega) hh
        omega
/-- A number of at most four digits, without a needless nought. -/
def numO (l : List UInt8) : Option Nat := if l = [] ∨ 4 < l.length ∨ (l.head? = some 48 ∧ 1 < l.length) then none else Lib.decFrom 0 l
theorem numO_dec {n : Nat} (h : (Lib.decDigits n).length ≤ 4) : numO (Lib.decDigits n) = some n := by
  unfold numO
  rw [if_neg, decFrom_dec n n (Nat.le_refl _)]
  intro hh
  rcases hh with hh | hh | ⟨h1, h2⟩
  · exact dec_ne n hh
  · omega
  · have := dec_head n n (Nat.le_refl _) h1
    subst this
    rw [dec_small (by omega)] at h2
    simp at h2
theorem dec_of : ∀ (k : Nat) (l : List UInt8) (n : Nat), l.length ≤ k → l ≠ [] → (l.head? = some 48 → l.length = 1) → Lib.decFrom 0 l = some n → Lib.decDigits n = l
  | 0, l, n, hk, hne, _, _ => by
    cases l with
    | nil => exact absurd rfl hne
    | cons a r => simp at hk
  | k + 1, l, n, hk, hne, hz, hd => by
    obtain ⟨r, b, rfl⟩ : ∃ r b, l = r ++ [b] := ⟨l.dropLast, l.getLast hne, (List.dropLast_concat_getLast hne).symm⟩
    rw [decFrom_snoc] at hd
    cases hr : Lib.decFrom 0 r with
    | none => rw [hr] at hd; cases hd
    | some m =>
      rw [hr, Option.bind_some] at hd
      cases hb : Lib.digitVal b with
      | none => rw [hb] at hd; cases hd
      | some d =>
        rw [hb] at hd
        have hn : m * 10 + d = n := Option.some.inj hd
        obtain ⟨eb, hd10⟩ := ofNat_digit hb
        by_cases hre : r = []
        · subst hre
          simp only [Lib.decFrom, Option.some.injEq] at hr
          subst hr
          rw [show n = d by omega, dec_small hd10, eb]
          rfl
        · have hh := head_snoc hre b
          have hr48 : r.head? ≠ some 48 := by
            intro h48
            have := hz (by rw [hh]; exact h48)
            cases r with
            | nil => exact hre rfl
            | cons a t => simp at this
          have ih := dec_of k r m (by simp at hk; omega) hre (fun h => absurd h hr48) hr
          have hm : 1 ≤ m := by
            cases r with
            | nil => exact absurd rfl hre
            | cons a t =>
              simp only [Lib.decFrom] at hr
              cases ha : Lib.digitVal a with
              | none => rw [ha] at hr; cases hr
              | some x =>
                rw [ha] at hr
                have hx := decFrom_ge t _ m hr
                obtain ⟨ea, _⟩ := ofNat_digit ha
                have : x ≠ 0 := by
                  intro h0
                  subst h0
                  apply hr48
                  rw [← ea]
                  rfl
                omega
          rw [dec_big (by omega), show n / 10 = m by omega, show n % 10 = d by omega, ih, eb]
theorem itoa_nat (n : Nat) : Lib.itoa n = Lib.decDigits n := by
  unfold Lib.itoa
  rw [if_neg (by omega)]
  rfl
theorem numO_some {l : List UInt8} {n : Nat} (h : numO l = some n) : l ≠ [] ∧ l.length ≤ 4 ∧ (l.head? = some 48 → l.length = 1) ∧ Lib.decFrom 0 l = some n := by
  unfold numO at h
  split at h
  · cases h
  · rename_i hc
    have hne : l ≠ [] := fun e => hc (Or.inl e)
    refine ⟨hne, by omega, fun h48 => ?_, h⟩
    have : ¬ 1 < l.length := fun h1 => hc (Or.inr (Or.inr ⟨h48, h1⟩))
    cases l with
    | nil => exact absurd rfl hne
    | cons a r => simp at this ⊢; exact this
theorem numO_itoa {l : List UInt8} {n : Nat} (h : numO l = some n) : Lib.itoa n = l := by
  obtain ⟨h1, h2, h3, h4⟩ := numO_some h
  rw [itoa_nat]
  exact dec_of l.length l n (Nat.le_refl _) h1 h3 h4
theorem numO_atoi {l : List UInt8} {n : Nat} (h : numO l = some n) : Lib.atoi l = some (n : Int) := by
  obtain ⟨h1, h2, h3, h4⟩ := numO_some h
  cases l with
  | nil => exact absurd rfl h1
  | cons b r =>
    have hb : ∃ d, Lib.digitVal b = some d := by
      simp only [Lib.decFrom] at h4
      cases hd : Lib.digitVal b with
      | none => rw [hd] at h4; cases h4
      | some d => exact ⟨d, rfl⟩
    obtain ⟨d, hd⟩ := hb
    obtain ⟨e1, e2, _⟩ := Lib.digitVal_eq hd
    have n45 : ¬ (b == 45) = true := by
      intro e
      have e := beq_iff_eq.1 e
      subst e
      revert e1
      decide
    have n43 : ¬ (b == 43) = true := by
      intro e
      have e := beq_iff_eq.1 e
      subst e
      revert e1
      decide
    show (if (b == 45) = true then _ else _) = _
    rw [if_neg n45, if_neg n43]
    unfold Lib.decNat
    rw [if_neg (by simp), h4]
    rfl
theorem numO_lt {l : List UInt8} {n : Nat} (h : numO l = some n) : n < 10000 := by
  obtain ⟨h1, h2, h3, h4⟩ := numO_some h
  have := Lib.decFrom_lt l 0 n h4
  have hp : 10 ^ l.length ≤ 10 ^ 4 := Nat.pow_le_pow_right (by omega) h2
  omega

/-- A text cut at its blanks; acc: what stands since the last one. -/
def cutAcc (acc : List UInt8) : List UInt8 → List (List UInt8)
  | [] => [acc]
  | b :: l => if b = 32 then acc :: cutAcc [] l else cutAcc (acc ++ [b]) l
def cutL (l : List UInt8) : List (List UInt8) := cutAcc [] l
theorem cut_none : ∀ (l acc : List UInt8), (32 : UInt8) ∉ l → cutAcc acc l = [acc ++ l]
  | [], acc, _ => by simp [cutAcc]
  | b :: l, acc, h => by
    have hb : ¬ b = 32 := fun e => h (by simp [e])
    rw [cutAcc, if_neg hb, cut_none l _ (fun hm => h (by simp [hm]))]
    simp
theorem cut_hit : ∀ (a acc r : List UInt8), (32 : UInt8) ∉ a → cutAcc acc (a ++ 32 :: r) = (acc ++ a) :: cutAcc [] r
  | [], acc, r, _ => by simp [cutAcc]
  | b :: a, acc, r, h => by
    have hb : ¬ b = 32 := fun e => h (by simp [e])
    rw [List.cons_append, cutAcc, if_neg hb, cut_hit a _ r (fun hm => h (by simp [hm]))]
    simp
theorem cut_len : ∀ (l acc : List UInt8), (cutAcc acc l).length ≤ l.length + 1 ∧ 1 ≤ (cutAcc acc l).length
  | [], acc => by simp [cutAcc]
  | b :: l, acc => by
    rw [cutAcc]
    split
    · have := cut_len l []
      simp only [List.length_cons]
      omega
    · have := cut_len l (acc ++ [b])
      simp only [List.length_cons]
      omega
theorem index_parts : ∀ (l : List UInt8) (c : UInt8), (Lib.indexByte l c = -1 ∧ c ∉ l) ∨ ∃ a r, l = a ++ c :: r ∧ c ∉ a ∧ Lib.indexByte l c = a.length
  | [], c => Or.inl ⟨rfl, by simp⟩
  | b :: l, c => by
    by_cases hb : b = c
    · subst hb
      exact Or.inr ⟨[], l, rfl, by simp, by simp [Lib.indexByte]⟩
    · have hbc : ¬ (b == c) = true := by simpa using hb
      rcases index_parts l c with ⟨h1, h2⟩ | ⟨a, r, rfl, h2, h3⟩
      · refine Or.inl ⟨?_, by simp [h2, Ne.symm hb]⟩
        rw [Lib.indexByte, if_neg hbc, h1]
        rfl
      · refine Or.inr ⟨b :: a, r, rfl, by simp [h2, Ne.symm hb], ?_⟩
        rw [Lib.indexByte, if_neg hbc, h3, if_neg (by simp)]
        simp
theorem split_cut : ∀ (k : Nat) (l : List UInt8), ((cutL l).length ≤ k + 1 → Lib.splitK [32] 0 k l = cutL l) ∧ (k + 1 < (cutL l).length → (Lib.splitK [32] 0 k l).length = k + 1)
  | 0, l => by
    rcases index_parts l 32 with ⟨h1, h2⟩ | ⟨a, r, rfl, h2, h3⟩
    · have e := cut_none l [] h2
      unfold cutL
      rw [e]
      simp [Lib.splitK]
    · have e := cut_hit a [] r h2
      have := cut_len r []
      unfold cutL
      rw [e]
      simp only [List.length_cons]
      exact ⟨fun h => by omega, fun _ => rfl⟩
  | k + 1, l => by
    rcases index_parts l 32 with ⟨h1, h2⟩ | ⟨a, r, rfl, h2, h3⟩
    · have e := cut_none l [] h2
      unfold cutL
      rw [e, Lib.splitK, Lib.index_one, h1, if_pos (by decide)]
      simp
    · have e := cut_hit a [] r h2
      obtain ⟨i1, i2⟩ := split_cut k r
      unfold cutL at i1 i2 ⊢
      rw [e, Lib.splitK, Lib.index_one, h3, if_neg (by simp)]
      have e1 : (a ++ 32 :: r).take (((a.length : Nat) : Int).toNat + 0) = a := by simp
      have e2 : (a ++ 32 :: r).drop (((a.length : Nat) : Int).toNat + [(32 : UInt8)].length) = r := by
        rw [show ((a.length : Nat) : Int).toNat + [(32 : UInt8)].length = a.length + 1 by simp, ← List.drop_drop]
        simp
      rw [e1, e2]
      simp only [List.length_cons, List.nil_append]
      exact ⟨fun h => by rw [i1 (by omega)], fun h => by rw [i2 (by omega)]⟩
/-- What strings.SplitN gives: all parts, or four where there are more. -/
def spcB : ByteArray := { data := #[32] }
def partsB (s : ByteArray) : List ByteArray := Lib.splitB spcB 0 (min 4 (s.size + 1) - 1) s
theorem parts_cut (s : ByteArray) : (partsB s).map (fun x => x.data.toList) = cutL s.data.toList ∨ ((partsB s).length = 4 ∧ 4 < (cutL s.data.toList).length) := by
  have hd := Lib.splitB_data spcB 0 (min 4 (s.size + 1) - 1) s
  have hb : spcB.data.toList = [32] := rfl
  rw [hb] at hd
  have hl := len_size s
  have hc := cut_len s.data.toList []
  obtain ⟨i1, i2⟩ := split_cut (min 4 (s.size + 1) - 1) s.data.toList
  by_cases h : (cutL s.data.toList).length ≤ min 4 (s.size + 1) - 1 + 1
  · left
    rw [← i1 h]
    exact hd
  · right
    have h4 := i2 (by omega)
    rw [← hd, List.length_map] at h4
    unfold cutL at h ⊢
    have e : min 4 (s.size + 1) = 4 := by omega
    rw [e] at h
    refine ⟨?_, by omega⟩
    have : (partsB s).length = min 4 (s.size + 1) - 1 + 1 := h4
    omega
end Go.Proofs.YtojdaifnljghkabGreatDoor.M
namespace Go.Proofs.YtojdaifnljghkabGreatDoor.Image
open Go.ChangeShapes Go.WideShapes Go.ChangeAt Go.RowKit
open Go.Proofs.YtojdaifnljghkabGreatDoor.M
set_option linter.unusedVariables false

/-- The table of powers of ten is there. -/
def Has (w : World) : Prop :=
  (1 < w.heap.size ∧ ∀ nm : String, Tryz.prog.globalNamed nm = some 1 → w.var? Tryz.prog nm = some (Lib.pow10Tab.map fun z => Value.int .u64 z).toArray) ∧ True
/-- It stays. -/
theorem Has.below {w w' : World} (h : Has w) (hb : Below w.heap.size w w') : Has w' := by
  obtain ⟨⟨h1, h2⟩, _⟩ := h
  exact ⟨⟨Nat.lt_of_lt_of_le h1 hb.size, fun nm hg => var?_below hb hg h1 (h2 nm hg)⟩, trivial⟩
theorem itoa_any (n : Int) (w : World) (h0 : -9223372036854775808 ≤ n) (h1 : n ≤ 9223372036854775807) (hh : Has w) :
    Calls Tryz.prog 100 #[.int .i64 n] w fun e w' => e = .returned (.string { data := (Lib.itoa n).toArray }) ∧ Below w.heap.size w w' :=
  (Any.strconv_Itoa Tryz.lays171 n h0 h1 w (hh.1.2 _ (by kernel_rfl))).mono fun _ _ ⟨he, k, os, hw⟩ => ⟨he, by
    rw [hw]
    exact ⟨rfl, rfl, rfl, by show w.heap.size ≤ (w.heap ++ os).size; rw [Array.size_append]; omega, fun j hj => by show (w.heap ++ os)[j]? = w.heap[j]?; rw [Array.getElem?_append_left hj]⟩⟩
theorem clone_any (s : ByteArray) (w : World) (hl : s.size ≤ 140737488351232) :
    Calls Tryz.prog 92 #[.string s] w fun e w' => e = .returned (.string s) ∧ Below w.heap.size w w' := by
  go_enter Tryz.func92, Tryz.ntmps92
  go_wp2_with (go_at_call 118; refine (Any.stringslite_Clone Tryz.lays316 s _ ?_).mono ?_; omega; rintro e w' ⟨rfl, hb⟩)
  go_ret
  exact ⟨rfl, hb⟩
end Go.Proofs.YtojdaifnljghkabGreatDoor.Image
namespace Go.Proofs.YtojdaifnljghkabGreatDoor.Measure
open Go.ChangeShapes Go.WideShapes Go.ChangeAt Go.RowKit
open Go.Proofs.YtojdaifnljghkabGreatDoor.M
set_option linter.unusedVariables false

theorem ret_pair {a b : Int} {v : Value} (h : a = b) : Ending.returned (.tuple #[.int .i64 a, v]) = .returned (.tuple #[.int .i64 b, v]) := by rw [h]

theorem step_any (m t n : Int) (w : World) (hm0 : 0 ≤ m) (hm1 : m < 1000003) (ht0 : 0 ≤ t) (ht1 : t < 10000) (hn0 : 0 ≤ n) (hn1 : n < 1000003) :
    Calls Tryz.prog 101 #[.int .i64 m, .int .i64 t, .int .i64 n] w fun e w' => e = .returned (.int .i64 (stp t m n)) ∧ w' = w := by
  have hp0 : 0 ≤ t * m := Int.mul_nonneg ht0 hm0
  have hp1 : t * m ≤ 10000 * 1000003 := Int.mul_le_mul (by omega) (by omega) hm0 (by omega)
  go_enter Tryz.func101, Tryz.ntmps101
  go_wp2
  go_ret
  exact ⟨rfl, rfl⟩

theorem is_any (n : Int) (w : World) :
    Calls Tryz.prog 80 #[.int .i64 n] w fun e w' => e = .returned (.bool (isM n)) ∧ w' = w := by
  by_cases h0 : 0 ≤ n
  · by_cases h1 : n < 1000003
    · rw [isM_iff.2 ⟨h0, h1⟩]
      go_enter Tryz.func80, Tryz.ntmps80
      go_wp2
      go_ret
      exact ⟨rfl, rfl⟩
    · rw [isM_false.2 (by omega)]
      go_enter Tryz.func80, Tryz.ntmps80
      go_wp2
      go_ret
      exact ⟨rfl, rfl⟩
  · rw [isM_false.2 (by omega)]
    go_enter Tryz.func80, Tryz.ntmps80
    go_wp2
    go_ret
    exact ⟨rfl, rfl⟩

theorem two_ok (a b : Int) (w : World) (ha : isM a = true) (hb : isM b = true) :
    Calls Tryz.prog 113 #[.int .i64 a, .int .i64 b] w fun e w' => e = .returned (.tuple #[.int .i64 (stp 7919 a b), .nilIface]) ∧ w' = w := by
  have h1 := isM_iff.1 ha
  have h2 := isM_iff.1 hb
  obtain ⟨a0, a1⟩ := h1
  obtain ⟨b0, b1⟩ := h2
  go_enter Tryz.func113, Tryz.ntmps113
  go_wp2_with (first | (go_at_call 80; refine (is_any _ _).mono ?_; rintro e w' ⟨rfl, rfl⟩) | (go_at_call 101; refine (step_any _ _ _ _ (by omega) (by omega) (by omega) (by omega) (by omega) (by omega)).mono ?_; rintro e w' ⟨rfl, rfl⟩))
  go_ret2
  exact ⟨rfl, rfl⟩

theorem two_bad (a b : Int) (w : World) (h : isM a = false ∨ isM b = false) :
    Calls Tryz.prog 113 #[.int .i64 a, .int .i64 b] w fun e w' => e = .returned (.tuple #[.int .i64 0, .iface 96 (.int .i64 1)]) ∧ w' = w := by
  cases ha : isM a with
  | false =>
    go_enter Tryz.func113, Tryz.ntmps113
    go_wp2_with (go_at_call 80; refine (is_any _ _).mono ?_; rintro e w' ⟨rfl, rfl⟩)
    go_ret2
    exact ⟨rfl, rfl⟩
  | true =>
    have hb : isM b = false := by rcases h with h | h; · rw [h] at ha; cases ha
                                  · exact h
    go_enter Tryz.func113, Tryz.ntmps113
    go_wp2_with (go_at_call 80; refine (is_any _ _).mono ?_; rintro e w' ⟨rfl, rfl⟩)
    go_ret2
    exact ⟨rfl, rfl⟩

theorem row_full (a : Option Addr) (n cap : Nat) (w : World) (hn : 30 < n) (hm : n ≤ maxLen) :
    Calls Tryz.prog 142 #[.slice a n cap] w fun e w' => e = .returned (.tuple #[.int .i64 0, .iface 96 (.int .i64 4)]) ∧ w' = w := by
  unfold maxLen at hm
  go_enter Tryz.func142, Tryz.ntmps142
  go_wp2
  go_ret2
  exact ⟨rfl, rfl⟩

set_option maxHeartbeats 400000 in
theorem row_le (a : Option Addr) (xs : List Int) (n cap : Nat) (w : World) (hn : n = xs.length) (hl : n ≤ 30) (hr : Row w a xs) :
    Calls Tryz.prog 142 #[.slice a n cap] w fun e w' =>
      ((okAll xs = true ∧ e = .returned (.tuple #[.int .i64 (allFrom 0 xs), .nilIface])) ∨ (okAll xs = false ∧ e = .returned (.tuple #[.int .i64 0, .iface 96 (.int .i64 1)]))) ∧ w' = w := by
  have hlen : ∀ k, k < n → ∃ x, xs[k]? = some x := fun k hk => ⟨xs[k]'(by omega), List.getElem?_eq_getElem (by omega)⟩
  have HL : Hid (∀ k, k < n → ∃ x, xs[k]? = some x) := hlen
  have HN : Hid (n = xs.length) := hn
  have HR : Hid (Row w a xs) := hr
  clear hlen hn hr
  go_enter Tryz.func142, Tryz.ntmps142
  go_wp2
  go_loop [4, 15] (fun m i => ∃ k : Nat, k ≤ n ∧ i = .int .i64 k ∧ m = .int .i64 (allFrom 0 (xs.take k)) ∧ ∀ (j : Nat) (x : Int), j < k → xs[j]? = some x → isM x = true) (fun _ i => n - (intOf i).toNat)
  case atStart => exact ⟨0, by omega, rfl, rfl, fun j x h => by omega⟩
  case round =>
    obtain ⟨k, hk, rfl, rfl, hall⟩ := hrel
    have HA : Hid (∀ (j : Nat) (x : Int), j < k → xs[j]? = some x → isM x = true) := hall
    clear hall
    have hrg := allFrom_range 0 (xs.take k) (by omega) (by omega)
    obtain ⟨hr0, hr1⟩ := hrg
    by_cases hlt : k < n
    · obtain ⟨x, hx⟩ := HL.out k hlt
      have HX : Hid (xs[k]? = some x) := hx
      clear hx
      have hrow : ∃ b off, a = some ⟨b, off, none⟩ ∧ w.cell? ⟨b, off + k, none⟩ = some (.int .i64 x) := by
        rcases HR.out with h | ⟨b, off, h1, h2⟩
        · have := HX.out; rw [h] at this; simp at this
        · exact ⟨b, off, h1, h2 k x HX.out⟩
      obtain ⟨b, off, rfl, hc⟩ := hrow
      cases hmx : isM x with
      | true =>
        go_wp2_with (go_at_call 113; refine (two_ok _ _ _ (isM_iff.2 ⟨by assumption, by assumption⟩) (by assumption)).mono ?_; rintro e w' ⟨rfl, rfl⟩)
        go_round
        case rel => exact ⟨k + 1, by omega, by go_num, by rw [allFrom_take HX.out], fun j y hj hy => by
          by_cases e : j = k
          · subst e; rw [HX.out] at hy; cases hy; exact hmx
          · exact HA.out j y (by omega) hy⟩
        case measure => simp [intOf]; omega
      | false =>
        go_wp2_with (go_at_call 113; refine (two_bad _ _ _ (Or.inr (by assumption))).mono ?_; rintro e w' ⟨rfl, rfl⟩)
        go_ret2
        exact ⟨Or.inr ⟨okAll_not HX.out hmx, rfl⟩, rfl⟩
    · go_wp2
      go_ret2
      have hkn : k = n := by omega
      have htk : xs.take k = xs := List.take_of_length_le (by have := HN.out; omega)
      refine ⟨Or.inl ⟨okAll_of fun j x hx => HA.out j x ?_ hx, ?_⟩, rfl⟩
      · have := (List.getElem?_eq_some_iff.1 hx).1
        have := HN.out
        omega
      · exact ret_pair (by rw [htk])

theorem row_ok (a : Option Addr) (xs : List Int) (n cap : Nat) (w : World) (hn : n = xs.length) (hl : n ≤ 30) (hr : Row w a xs) (ho : okAll xs = true) :
    Calls Tryz.prog 142 #[.slice a n cap] w fun e w' => e = .returned (.tuple #[.int .i64 (allFrom 0 xs), .nilIface]) ∧ w' = w := by
  refine (row_le a xs n cap w hn hl hr).mono ?_
  rintro e w' ⟨⟨_, he⟩ | ⟨hb, _⟩, hw⟩
  · exact ⟨he, hw⟩
  · rw [ho] at hb; cases hb
theorem row_bad (a : Option Addr) (xs : List Int) (n cap : Nat) (w : World) (hn : n = xs.length) (hl : n ≤ 30) (hr : Row w a xs) (ho : okAll xs = false) :
    Calls Tryz.prog 142 #[.slice a n cap] w fun e w' => e = .returned (.tuple #[.int .i64 0, .iface 96 (.int .i64 1)]) ∧ w' = w := by
  refine (row_le a xs n cap w hn hl hr).mono ?_
  rintro e w' ⟨⟨hb, _⟩ | ⟨_, he⟩, hw⟩
  · rw [ho] at hb; cases hb
  · exact ⟨he, hw⟩

theorem all_full (a : Option Addr) (n cap : Nat) (w : World) (hn : 30 < n) (hm : n ≤ maxLen) :
    Calls Tryz.prog 126 #[.slice a n cap] w fun e w' => e = .returned (.tuple #[.int .i64 0, .iface 96 (.int .i64 4)]) ∧ w' = w := by
  go_enter Tryz.func126, Tryz.ntmps126
  go_wp2_with (go_at_call 142; refine (row_full _ _ _ _ hn hm).mono ?_; rintro e w' ⟨rfl, rfl⟩)
  go_ret2
  exact ⟨rfl, rfl⟩
theorem all_ok (a : Option Addr) (xs : List Int) (n cap : Nat) (w : World) (hn : n = xs.length) (hl : n ≤ 30) (hr : Row w a xs) (ho : okAll xs = true) :
    Calls Tryz.prog 126 #[.slice a n cap] w fun e w' => e = .returned (.tuple #[.int .i64 (allFrom 0 xs), .nilIface]) ∧ w' = w := by
  have c := row_ok a xs n cap w hn hl hr ho
  have C : Hid (Calls Tryz.prog 142 #[.slice a n cap] w fun e w' => e = .returned (.tuple #[.int .i64 (allFrom 0 xs), .nilIface]) ∧ w' = w) := c
  clear c hn ho
  go_enter Tryz.func126, Tryz.ntmps126
  go_wp2_with (go_at_call 142; refine C.out.mono ?_; rintro e w' ⟨rfl, rfl⟩)
  go_ret2
  exact ⟨rfl, rfl⟩
theorem all_bad (a : Option Addr) (xs : List Int) (n cap : Nat) (w : World) (hn : n = xs.length) (hl : n ≤ 30) (hr : Row w a xs) (ho : okAll xs = false) :
    Calls Tryz.prog 126 #[.slice a n cap] w fun e w' => e = .returned (.tuple #[.int .i64 0, .iface 96 (.int .i64 1)]) ∧ w' = w := by
  have c := row_bad a xs n cap w hn hl hr ho
  have C : Hid (Calls Tryz.prog 142 #[.slice a n cap] w fun e w' => e = .returned (.tuple #[.int .i64 0, .iface 96 (.int .i64 1)]) ∧ w' = w) := c
  clear c hn ho
  go_enter Tryz.func126, Tryz.ntmps126
  go_wp2_with (go_at_call 142; refine C.out.mono ?_; rintro e w' ⟨rfl, rfl⟩)
  go_ret2
  exact ⟨rfl, rfl⟩

theorem of_full (s : ByteArray) (w : World) (hn : 24 < s.size) (hm : s.size ≤ 1152921504606846976) :
    Calls Tryz.prog 60 #[.string s] w fun e w' => e = .returned (.tuple #[.int .i64 0, .iface 96 (.int .i64 4)]) ∧ w' = w := by
  go_enter Tryz.func60, Tryz.ntmps60
  go_wp2
  go_ret2
  exact ⟨rfl, rfl⟩

set_option maxHeartbeats 400000 in
theorem of_ok (s : ByteArray) (w : World) (hl : s.size ≤ 24) :
    Calls Tryz.prog 60 #[.string s] w fun e w' => e = .returned (.tuple #[.int .i64 (ofFrom 1 s.data.toList), .nilIface]) ∧ w' = w := by
  go_enter Tryz.func60, Tryz.ntmps60
  go_wp2
  go_loop [4, 12] (fun m i => ∃ k : Nat, k ≤ s.size ∧ i = .int .i64 k ∧ m = .int .i64 (ofFrom 1 (s.data.toList.take k))) (fun _ i => s.size - (intOf i).toNat)
  case atStart => exact ⟨0, by omega, rfl, rfl⟩
  case round =>
    obtain ⟨k, hk, rfl, rfl⟩ := hrel
    have hrg := ofFrom_range 1 (s.data.toList.take k) (by omega) (by omega)
    obtain ⟨hr0, hr1⟩ := hrg
    by_cases hlt : k < s.size
    · have hb := (s[k]).toNat_lt
      have HX : Hid (s.data.toList[k]? = some s[k]) := by show s.data.toList[k]? = some s[k]; rw [List.getElem?_eq_getElem (by simpa using hlt)]; rfl
      go_wp2_with (go_at_call 101; refine (step_any _ _ _ _ (by omega) (by omega) (by omega) (by omega) (by omega) (by omega)).mono ?_; rintro e w' ⟨rfl, rfl⟩)
      go_round
      case rel => exact ⟨k + 1, by omega, by go_num, by rw [ofFrom_take HX.out]⟩
      case measure => simp [intOf]; omega
    · go_wp2
      go_ret2
      have htk : s.data.toList.take k = s.data.toList := List.take_of_length_le (by simp; omega)
      exact ⟨ret_pair (by rw [htk]), rfl⟩

theorem of_any (s : ByteArray) (w : World) (hm : s.size ≤ 1152921504606846976) :
    Calls Tryz.prog 60 #[.string s] w fun e w' => e = .returned (.tuple #[.int .i64 (ofV s), errV 96 (ofC s)]) ∧ w' = w := by
  unfold ofV ofC
  by_cases h : 24 < s.size
  · rw [if_pos h, if_pos h]; exact of_full s w h hm
  · rw [if_neg h, if_neg h]; exact of_ok s w (by omega)
theorem two_any (a b : Int) (w : World) :
    Calls Tryz.prog 113 #[.int .i64 a, .int .i64 b] w fun e w' => e = .returned (.tuple #[.int .i64 (twoV a b), errV 96 (twoC a b)]) ∧ w' = w := by
  by_cases h : isM a = true ∧ isM b = true
  · rw [twoV_ok h.1 h.2, twoC_ok h.1 h.2]; exact two_ok a b w h.1 h.2
  · rw [twoV_bad h, twoC_bad h]
    refine two_bad a b w ?_
    cases ha : isM a with
    | false => exact Or.inl rfl
    | true => cases hb : isM b with
      | false => exact Or.inr rfl
      | true => exact absurd ⟨ha, hb⟩ h
theorem all_any (a : Option Addr) (xs : List Int) (n cap : Nat) (w : World) (hn : n = xs.length) (hm : n ≤ maxLen) (hr : Row w a xs) :
    Calls Tryz.prog 126 #[.slice a n cap] w fun e w' => e = .returned (.tuple #[.int .i64 (allV xs), errV 96 (allC xs)]) ∧ w' = w := by
  unfold allV allC
  by_cases h : 30 < xs.length
  · rw [if_pos h, if_pos h]; exact all_full a n cap w (by omega) hm
  · rw [if_neg h, if_neg h]
    cases ho : okAll xs with
    | true => exact all_ok a xs n cap w hn (by omega) hr ho
    | false => exact all_bad a xs n cap w hn (by omega) hr ho
end Go.Proofs.YtojdaifnljghkabGreatDoor.Measure
namespace Go.Proofs.YtojdaifnljghkabGreatDoor.M
/-- An image as text. -/
def lineB (nm : ByteArray) (v : Int) (cd : ByteArray) : ByteArray := nm ++ spcB ++ { data := (Lib.itoa v).toArray } ++ spcB ++ cd
def lineV (nm : ByteArray) (v : Int) (cd : ByteArray) : ByteArray := if imgE nm v cd = 0 then lineB nm v cd else { data := #[] }
theorem lineV_ok {nm cd : ByteArray} {v : Int} (h : imgE nm v cd = 0) : lineV nm v cd = lineB nm v cd := by unfold lineV; rw [if_pos h]
theorem lineV_bad {nm cd : ByteArray} {v : Int} (h : ¬ imgE nm v cd = 0) : lineV nm v cd = { data := #[] } := by unfold lineV; rw [if_neg h]
/-- The measure of an image. -/
def meaV (nm : ByteArray) (v : Int) (cd : ByteArray) : Int := if imgE nm v cd = 0 then ofFrom 1 (lineB nm v cd).data.toList else 0
theorem meaV_ok {nm cd : ByteArray} {v : Int} (h : imgE nm v cd = 0) : meaV nm v cd = ofFrom 1 (lineB nm v cd).data.toList := by unfold meaV; rw [if_pos h]
theorem meaV_bad {nm cd : ByteArray} {v : Int} (h : ¬ imgE nm v cd = 0) : meaV nm v cd = 0 := by unfold meaV; rw [if_neg h]
/-- Which of two is newer: the fault, and the answer. -/
def newE (nm : ByteArray) (v : Int) (cd : ByteArray) (nm' : ByteArray) (v' : Int) (cd' : ByteArray) : Int :=
  if imgE nm v cd = 0 then (if imgE nm' v' cd' = 0 then (if nm = nm' then 0 else 3) else imgE nm' v' cd') else imgE nm v cd
def newV (nm : ByteArray) (v : Int) (cd : ByteArray) (nm' : ByteArray) (v' : Int) (cd' : ByteArray) : Bool := decide (newE nm v cd nm' v' cd' = 0) && decide (v' < v)
section
variable {nm cd nm' cd' : ByteArray} {v v' : Int}
theorem newE_ok (h : imgE nm v cd = 0) (h' : imgE nm' v' cd' = 0) (hq : nm = nm') : newE nm v cd nm' v' cd' = 0 := by unfold newE; rw [if_pos h, if_pos h', if_pos hq]
theorem newE_name (h : imgE nm v cd = 0) (h' : imgE nm' v' cd' = 0) (hq : ¬ nm = nm') : newE nm v cd nm' v' cd' = 3 := by unfold newE; rw [if_pos h, if_pos h', if_neg hq]
theorem newE_second (h : imgE nm v cd = 0) (h' : ¬ imgE nm' v' cd' = 0) : newE nm v cd nm' v' cd' = imgE nm' v' cd' := by unfold newE; rw [if_pos h, if_neg h']
theorem newE_first (h : ¬ imgE nm v cd = 0) : newE nm v cd nm' v' cd' = imgE nm v cd := by unfold newE; rw [if_neg h]
theorem newV_ok (h : newE nm v cd nm' v' cd' = 0) : newV nm v cd nm' v' cd' = decide (v' < v) := by unfold newV; rw [decide_eq_true h]; rfl
theorem newV_bad (h : ¬ newE nm v cd nm' v' cd' = 0) : newV nm v cd nm' v' cd' = false := by unfold newV; rw [decide_eq_false h]; rfl
end
theorem blk_two (w : World) (o o' : Obj) : ((w.alloc o).alloc o').heap[w.heap.size + 1]? = some o' := by
  have := blk_new (w.alloc o) o'
  simpa using this
theorem dec_len : ∀ (k n : Nat), n < 10 ^ (k + 1) → (Lib.decDigits n).length ≤ k + 1
  | k, n, h => by
    by_cases h10 : n < 10
    · rw [dec_small h10]; simp
    · cases k with
      | zero => omega
      | succ k =>
        rw [dec_big h10, List.length_append]
        have := dec_len k (n / 10) (by rw [Nat.pow_succ] at h; omega)
        simp only [List.length_cons, List.length_nil]
        omega
theorem itoa_four {v : Int} (h1 : 1 ≤ v) (h2 : v ≤ 1000) : ({ data := (Lib.itoa v).toArray } : ByteArray).size ≤ 4 := by
  obtain ⟨n, rfl⟩ : ∃ n : Nat, v = n := ⟨v.toNat, by omega⟩
  rw [itoa_nat]
  have := dec_len 3 n (by omega)
  show (Lib.decDigits n).toArray.size ≤ 4
  simpa using this
end Go.Proofs.YtojdaifnljghkabGreatDoor.M
namespace Go.Proofs.YtojdaifnljghkabGreatDoor.Image
open Go.ChangeShapes Go.WideShapes Go.ChangeAt Go.RowKit
open Go.Proofs.YtojdaifnljghkabGreatDoor.M
set_option linter.unusedVariables false

theorem byte_ext {s t : ByteArray} (h : s.data.toList = t.data.toList) : s = t := by
  cases s; cases t
  congr 1
  exact Array.ext' h
theorem str_ne {s t : ByteArray} (h : ¬ s = t) : (s.toList == t.toList) = false := by
  rw [Lib.toList_data, Lib.toList_data]
  apply beq_eq_false_iff_ne.2
  exact fun e => h (byte_ext e)
theorem str_eq {s t : ByteArray} (h : s = t) : (s.toList == t.toList) = true := by
  subst h
  simp
theorem errV_ne {T : TypeId} {k : Int} (h : ¬ k = 0) : errV T k = .iface T (.int .i64 k) := by unfold errV; rw [if_neg h]

set_option maxHeartbeats 4000000 in
theorem print_any (nm cd : ByteArray) (v : Int) (w : World) (hn : nm.size ≤ 140737488351232) (hc : cd.size ≤ 140737488351232) (hh : Has w) :
    Calls Tryz.prog 59 #[.agg (imgC nm v cd)] w fun e w' => e = .returned (.tuple #[.string (lineV nm v cd), errV 96 (imgE nm v cd)]) ∧ Below w.heap.size w w' := by
  have HB := hide (below_new w (.cells (imgC nm v cd) 23))
  have HG := hide (blk_new w (.cells (imgC nm v cd) 23))
  have HH := hide hh
  clear hh
  unfold imgC at HB HG ⊢
  go_enter Tryz.func59, Tryz.ntmps59
  go_wp2_with (fail)
  refine (check_any nm cd v _ hn hc).mono ?_
  rintro e w1 ⟨rfl, hb1⟩
  have HB1 := hide (below_on HB.out hb1)
  have HG1 := hide (blk_below HG.out hb1)
  clear hb1 HB HG
  obtain ⟨c0, c1, c2⟩ := img_cells HG1.out
  by_cases hE : imgE nm v cd = 0
  · have HL := hide (lineV_ok hE)
    have HE := hide hE
    obtain ⟨z1, z2, z3, z4, z5, z6, z7⟩ := imgE_zero hE
    rw [hE, errV_zero]
    clear hE z1 z2 z3
    have HW := hide (HH.out.below HB1.out)
    have HI : Hid (∀ W, Has W → Calls Tryz.prog 100 #[.int .i64 v] W fun e w' => e = .returned (.string { data := (Lib.itoa v).toArray }) ∧ Below W.heap.size W w') := fun W hW => itoa_any v W (by omega) (by omega) hW
    have hD := itoa_four z6 z7
    rw [show lineB nm v cd = nm ++ spcB ++ { data := (Lib.itoa v).toArray } ++ spcB ++ cd from rfl] at HL
    generalize hDe : ({ data := (Lib.itoa v).toArray } : ByteArray) = D at hD HL HI
    clear hDe z6 z7
    have q1 : ¬ 9223372036854775807 < nm.size + 1 := by omega
    have q2 : ¬ 9223372036854775807 < nm.size + 1 + D.size := by omega
    have q3 : ¬ 9223372036854775807 < nm.size + 1 + D.size + 1 := by omega
    have q4 : ¬ 9223372036854775807 < nm.size + 1 + D.size + 1 + cd.size := by omega
    go_wp2_with (fail)
    go_region_held3 (fun w' => w'.cell? ⟨w.heap.size, 0, none⟩ = some (.string nm) ∧ w'.cell? ⟨w.heap.size, 1, none⟩ = some (.int .i64 v) ∧ w'.cell? ⟨w.heap.size, 2, none⟩ = some (.string cd)) (go_keep)
      (first | (go_at_call 100; refine (HI.out w1.drew (HW.out.below (Below.drew (Below.refl _ _)))).mono ?_; rintro e w2 ⟨rfl, hb2⟩; have HB2 := hide (below_on (w1 := w1.drew) (Below.drew HB1.out) hb2); have HG2 := blk_below (w := w1.drew) HG1.out hb2; clear hb2; obtain ⟨d0, d1, d2⟩ := img_cells HG2; clear HG2))
    go_wp2
    go_ret2
    exact ⟨by rw [HL.out, HE.out]; rfl, HB2.out⟩
  · have HL := hide (lineV_bad hE)
    have HX := hide (errV_ne (T := 96) hE)
    rw [errV_ne hE]
    clear hE
    go_wp2
    go_ret2
    exact ⟨by rw [HL.out, HX.out]; rfl, HB1.out⟩

theorem line_size (nm cd : ByteArray) (v : Int) (h : imgE nm v cd = 0) : (lineB nm v cd).size ≤ 22 := by
  obtain ⟨z1, z2, z3, z4, z5, z6, z7⟩ := imgE_zero h
  have hD := itoa_four z6 z7
  unfold lineB
  generalize ({ data := (Lib.itoa v).toArray } : ByteArray) = D at hD ⊢
  have hs : spcB.size = 1 := rfl
  rw [ByteArray.size_append, ByteArray.size_append, ByteArray.size_append, ByteArray.size_append, hs]
  omega

set_option maxHeartbeats 4000000 in
theorem measure_any (nm cd : ByteArray) (v : Int) (w : World) (hn : nm.size ≤ 140737488351232) (hc : cd.size ≤ 140737488351232) (hh : Has w) :
    Calls Tryz.prog 15 #[.agg (imgC nm v cd)] w fun e w' => e = .returned (.tuple #[.int .i64 (meaV nm v cd), errV 96 (imgE nm v cd)]) ∧ Below w.heap.size w w' := by
  have HB := hide (below_new w (.cells (imgC nm v cd) 23))
  have HH := hide (hh.below HB.out)
  clear hh
  unfold imgC at HB HH ⊢
  go_enter Tryz.func15, Tryz.ntmps15
  go_wp2_with (fail)
  refine (print_any nm cd v _ hn hc HH.out).mono ?_
  rintro e w1 ⟨rfl, hb1⟩
  have HB1 := hide (below_on HB.out hb1)
  clear hb1 HB
  by_cases hE : imgE nm v cd = 0
  · have HM := hide (meaV_ok hE)
    have HE := hide hE
    rw [lineV_ok hE, hE, errV_zero]
    have hs := line_size nm cd v hE
    clear hE
    go_wp2_with (fail)
    refine (Measure.of_ok _ _ (by omega)).mono ?_
    rintro e w2 ⟨rfl, rfl⟩
    go_wp2
    go_ret2
    exact ⟨by rw [HM.out, HE.out]; rfl, HB1.out⟩
  · have HM := hide (meaV_bad hE)
    have HX := hide (errV_ne (T := 96) hE)
    rw [lineV_bad hE, errV_ne hE]
    clear hE
    go_wp2
    go_ret2
    exact ⟨by rw [HM.out, HX.out]; rfl, HB1.out⟩

set_option maxHeartbeats 4000000 in
theorem newer_any (nm cd nm' cd' : ByteArray) (v v' : Int) (w : World) (hn : nm.size ≤ 140737488351232) (hc : cd.size ≤ 140737488351232) (hn' : nm'.size ≤ 140737488351232) (hc' : cd'.size ≤ 140737488351232) :
    Calls Tryz.prog 40 #[.agg (imgC nm v cd), .agg (imgC nm' v' cd')] w fun e w' => e = .returned (.tuple #[.bool (newV nm v cd nm' v' cd'), errV 96 (newE nm v cd nm' v' cd')]) ∧ Below w.heap.size w w' := by
  have HB := hide (below_on (below_new w (.cells (imgC nm v cd) 23)) (below_new _ (.cells (imgC nm' v' cd') 23)))
  have HG := hide (blk_keep (blk_new w (.cells (imgC nm v cd) 23)) (.cells (imgC nm' v' cd') 23))
  have HK := hide (blk_two w (.cells (imgC nm v cd) 23) (.cells (imgC nm' v' cd') 23))
  unfold imgC at HB HG HK ⊢
  go_enter Tryz.func40, Tryz.ntmps40
  go_wp2_with (fail)
  refine (check_any nm cd v _ hn hc).mono ?_
  rintro e w1 ⟨rfl, hb1⟩
  have HB1 := hide (below_on HB.out hb1)
  have HG1 := hide (blk_below HG.out hb1)
  have HK1 := hide (blk_below HK.out hb1)
  clear hb1 HB HG HK
  obtain ⟨c10, c11, c12⟩ := img_cells HG1.out
  obtain ⟨d10, d11, d12⟩ := img_cells HK1.out
  by_cases hE : imgE nm v cd = 0
  · have HE := hide hE
    rw [hE, errV_zero]
    clear hE
    go_wp2_with (fail)
    refine (check_any nm' cd' v' _ hn' hc').mono ?_
    rintro e w2 ⟨rfl, hb2⟩
    have HB2 := hide (below_on HB1.out hb2)
    have HG2 := hide (blk_below HG1.out hb2)
    have HK2 := hide (blk_below HK1.out hb2)
    clear hb2 HB1 HG1 HK1 c10 c11 c12 d10 d11 d12
    obtain ⟨c10, c11, c12⟩ := img_cells HG2.out
    obtain ⟨d10, d11, d12⟩ := img_cells HK2.out
    by_cases hF : imgE nm' v' cd' = 0
    · have HF := hide hF
      rw [hF, errV_zero]
      clear hF
      by_cases hq : nm = nm'
      · have HQ := hide (newE_ok HE.out HF.out hq)
        have HV := hide (newV_ok HQ.out)
        subst hq
        go_wp2
        go_ret2
        exact ⟨by rw [HQ.out, HV.out]; rfl, HB2.out⟩
      · have HQ := hide (newE_name HE.out HF.out hq)
        have HV := hide (newV_bad (by rw [HQ.out]; decide))
        have hq2 := str_ne hq
        go_wp2
        go_ret2
        exact ⟨by rw [HQ.out, HV.out]; rfl, HB2.out⟩
    · have HQ := hide (newE_second (nm := nm) HE.out hF)
      have HV := hide (newV_bad (by rw [HQ.out]; exact hF))
      have HX := hide (errV_ne (T := 96) hF)
      rw [errV_ne hF]
      clear hF
      go_wp2
      go_ret2
      exact ⟨by rw [HQ.out, HV.out, HX.out]; rfl, HB2.out⟩
  · have HQ := hide (newE_first (nm' := nm') (v' := v') (cd' := cd') hE)
    have HV := hide (newV_bad (by rw [HQ.out]; exact hE))
    have HX := hide (errV_ne (T := 96) hE)
    rw [errV_ne hE]
    clear hE
    go_wp2
    go_ret2
    exact ⟨by rw [HQ.out, HV.out, HX.out]; rfl, HB1.out⟩
end Go.Proofs.YtojdaifnljghkabGreatDoor.Image
namespace Go.Proofs.YtojdaifnljghkabGreatDoor.Image
open Go.ChangeShapes Go.WideShapes Go.ChangeAt Go.RowKit
open Go.Proofs.YtojdaifnljghkabGreatDoor.M
set_option linter.unusedVariables false

theorem info_img : (Tryz.prog.info? 23).map (·.size) = some 3 := by kernel_rfl
/-- An image out of its block. -/
theorem load_img {w : World} {b : Nat} {c : Array Value} {fr : Nat × Nat} (h : w.heap[b]? = some (.cells c 23 fr)) (hs : c.size = 3) : (loadVar 23 ⟨b, 0, none⟩).run Tryz.prog w = .ok (.agg c) w :=
  run_loadVar_row w b _ _ c fr _ h Tryz.underlying23 rfl (by rw [info_img, hs])
theorem three_set {w : World} {b : Nat} {a0 a1 a2 x y z : Value} {t : TypeId} {fr : Nat × Nat} (hg : w.heap[b]? = some (.cells #[a0, a1, a2] t fr)) :
    ((w.setCell ⟨b, 0, none⟩ x).setCell ⟨b, 1, none⟩ y).setCell ⟨b, 2, none⟩ z = w.setRow b #[x, y, z] := by
  rw [setCell_eq_setRow w b 0 _ _ _ x hg]
  have h1 := setRow_heap w b _ (#[a0, a1, a2].setIfInBounds 0 x) t fr hg
  rw [setCell_eq_setRow _ b 1 _ _ _ y h1, setRow_setRow]
  have h2 := setRow_heap w b _ ((#[a0, a1, a2].setIfInBounds 0 x).setIfInBounds 1 y) t fr hg
  rw [setCell_eq_setRow _ b 2 _ _ _ z h2, setRow_setRow]
  rfl
theorem img_free {w : World} {b : Nat} {c : Array Value} {t : TypeId} (h : w.heap[b]? = some (.cells c t)) :
    w.frozen? ⟨b, 0, none⟩ = false ∧ w.frozen? ⟨b, 1, none⟩ = false ∧ w.frozen? ⟨b, 2, none⟩ = false := ⟨frozen_of_row w b 0 _ _ h, frozen_of_row w b 1 _ _ h, frozen_of_row w b 2 _ _ h⟩
theorem res_alone {fn : Func} {p : Tmp} {ty : TypeId} (h : fn.results = #[.cell p ty]) (tmps : Array Value) (P : Program) (w : World) :
    (results fn tmps).run P w = ((asAddr (tmps.getD p undef)).run P w).andThen fun a w1 => (loadVar ty a).run P w1 := by
  simp only [results, h]
  simp [Sem.run_bind, Result.andThen]
theorem results_imgOne {fn : Func} {p : Tmp} (h : fn.results = #[.cell p 23]) (tmps : Array Value) (w : World) (b : Nat) (c : Array Value) (hp : tmps.getD p undef = .pointer (some ⟨b, 0, none⟩))
    (hg : w.heap[b]? = some (.cells c 23)) (hs : c.size = 3) : (results fn tmps).run Tryz.prog w = .ok (.agg c) w := by
  rw [res_alone h, hp]
  simp [asAddr, load_img hg hs, Result.andThen]

/-- What lies in a cell, whatever it is. -/
def cellAt (w : World) (b i : Nat) : Value := (w.cell? ⟨b, i, none⟩).getD undef
theorem cellAt_of {w : World} {b i : Nat} {v : Value} (h : w.cell? ⟨b, i, none⟩ = some v) : w.cell? ⟨b, i, none⟩ = some (cellAt w b i) := by unfold cellAt; rw [h]; rfl
/-- Where the image lies that came in, where the answer will lie, and that all else is as it was. -/
def InvC (w0 : World) (P R : Nat) (nm : ByteArray) (v : Int) (cd : ByteArray) (W : World) : Prop :=
  Below w0.heap.size w0 W ∧ (w0.heap.size ≤ P ∧ w0.heap.size ≤ R ∧ P ≠ R) ∧ W.heap[P]? = some (.cells #[.string nm, .int .i64 v, .string cd] 23) ∧ ∃ x y z, W.heap[R]? = some (.cells #[x, y, z] 23)
section
variable {w0 W W' : World} {P R : Nat} {nm cd : ByteArray} {v : Int}
theorem invC_S (h : InvC w0 P R nm v cd W) : W.cell? ⟨P, 0, none⟩ = some (.string nm) ∧ W.cell? ⟨P, 1, none⟩ = some (.int .i64 v) ∧ W.cell? ⟨P, 2, none⟩ = some (.string cd)
    ∧ W.frozen? ⟨R, 0, none⟩ = false ∧ W.frozen? ⟨R, 1, none⟩ = false ∧ W.frozen? ⟨R, 2, none⟩ = false
    ∧ W.cell? ⟨R, 0, none⟩ = some (cellAt W R 0) ∧ W.cell? ⟨R, 1, none⟩ = some (cellAt W R 1) ∧ W.cell? ⟨R, 2, none⟩ = some (cellAt W R 2) ∧ InvC w0 P R nm v cd W := by
  have h' := h
  obtain ⟨h1, h2, h3, x, y, z, h4⟩ := h
  obtain ⟨c0, c1, c2⟩ := img_cells (nm := nm) (v := v) (cd := cd) h3
  obtain ⟨f0, f1, f2⟩ := img_free h4
  exact ⟨c0, c1, c2, f0, f1, f2, cellAt_of (v := x) (by rw [cell_of_row W R _ _ _ _ h4]; rfl), cellAt_of (v := y) (by rw [cell_of_row W R _ _ _ _ h4]; rfl), cellAt_of (v := z) (by rw [cell_of_row W R _ _ _ _ h4]; rfl), h'⟩
theorem invC_drew (h : InvC w0 P R nm v cd W) : InvC w0 P R nm v cd W.drew := ⟨Below.drew h.1, h.2⟩
theorem invC_below (h : InvC w0 P R nm v cd W) (hb : Below W.heap.size W W') : InvC w0 P R nm v cd W' := by
  obtain ⟨h1, h2, h3, x, y, z, h4⟩ := h
  exact ⟨below_on h1 hb, h2, blk_below h3 hb, x, y, z, blk_below h4 hb⟩
theorem invC_set (h : InvC w0 P R nm v cd W) (i : Nat) (u : Value) : InvC w0 P R nm v cd (W.setCell ⟨R, i, none⟩ u) := by
  obtain ⟨h1, h2, h3, x, y, z, h4⟩ := h
  rw [setCell_eq_setRow W R i _ _ _ u h4]
  refine ⟨below_setRow h1 h2.2.1 _, h2, by rw [setRow_other _ _ _ _ h2.2.2]; exact h3, ?_⟩
  have h5 := setRow_heap _ _ _ (#[x, y, z].setIfInBounds i u) _ _ h4
  match i with
  | 0 => exact ⟨u, y, z, h5⟩
  | 1 => exact ⟨x, u, z, h5⟩
  | 2 => exact ⟨x, y, u, h5⟩
  | i + 3 => exact ⟨x, y, z, h5⟩
theorem invC_put (h : InvC w0 P R nm v cd W) (a b c : Value) : (((W.setCell ⟨R, 0, none⟩ a).setCell ⟨R, 1, none⟩ b).setCell ⟨R, 2, none⟩ c).heap[R]? = some (.cells #[a, b, c] 23) ∧ Below w0.heap.size w0 (((W.setCell ⟨R, 0, none⟩ a).setCell ⟨R, 1, none⟩ b).setCell ⟨R, 2, none⟩ c) := by
  obtain ⟨h1, h2, h3, x, y, z, h4⟩ := h
  rw [three_set h4]
  exact ⟨setRow_heap _ _ _ _ _ _ h4, below_setRow h1 h2.2.1 _⟩
end

set_option maxHeartbeats 4000000 in
theorem clones_any (nm cd : ByteArray) (v : Int) (w : World) (hn : nm.size ≤ 140737488351232) (hc : cd.size ≤ 140737488351232) :
    Calls Tryz.prog 52 #[.agg (imgC nm v cd)] w fun e w' => e = .returned (.agg (imgC nm v cd)) ∧ Below w.heap.size w w' := by
  have hI : InvC w w.heap.size (w.heap.size + 1) nm v cd ((w.alloc (.cells (imgC nm v cd) 23)).alloc (.cells (imgC { data := #[] } 0 { data := #[] }) 23)) :=
    ⟨below_on (below_new w _) (below_new _ _), ⟨Nat.le_refl _, by omega, by omega⟩, blk_keep (blk_new w _) _, _, _, _, blk_two w _ _⟩
  unfold imgC at hI ⊢
  obtain ⟨m0, m1, m2, f0, f1, f2, r0, r1, r2, _⟩ := invC_S hI
  go_enter Tryz.func52, Tryz.ntmps52
  go_wp2_with (fail)
  go_region_held3 (fun w' => w'.cell? ⟨w.heap.size, 0, none⟩ = some (.string nm) ∧ w'.cell? ⟨w.heap.size, 1, none⟩ = some (.int .i64 v) ∧ w'.cell? ⟨w.heap.size, 2, none⟩ = some (.string cd)
    ∧ w'.frozen? ⟨w.heap.size + 1, 0, none⟩ = false ∧ w'.frozen? ⟨w.heap.size + 1, 1, none⟩ = false ∧ w'.frozen? ⟨w.heap.size + 1, 2, none⟩ = false
    ∧ w'.cell? ⟨w.heap.size + 1, 0, none⟩ = some (cellAt w' (w.heap.size + 1) 0) ∧ w'.cell? ⟨w.heap.size + 1, 1, none⟩ = some (cellAt w' (w.heap.size + 1) 1) ∧ w'.cell? ⟨w.heap.size + 1, 2, none⟩ = some (cellAt w' (w.heap.size + 1) 2) ∧ InvC w w.heap.size (w.heap.size + 1) nm v cd w')
    (exact invC_S (by repeat (first | assumption | apply invC_drew | apply invC_set)))
    (first | (go_at_call 92; refine (clone_any _ _ ?_).mono ?_; omega; rintro e w5 ⟨rfl, hb5⟩; have hI5 : InvC w w.heap.size (w.heap.size + 1) nm v cd w5 := invC_below (by repeat (first | assumption | apply invC_drew | apply invC_set)) hb5; clear hb5; obtain ⟨m50, m51, m52, f50, f51, f52, r50, r51, r52, _⟩ := invC_S hI5))
  all_goals
    go_wp2
    refine bodyPost_ret (v := .agg #[.string nm, .int .i64 v, .string cd]) ?_ rfl ⟨rfl, ?_⟩
    · exact results_imgOne (p := 2) rfl _ _ (w.heap.size + 1) _ rfl (invC_put (by repeat (first | assumption | apply invC_drew | apply invC_set)) _ _ _).1 rfl
    · exact (invC_put (by repeat (first | assumption | apply invC_drew | apply invC_set)) _ _ _).2
end Go.Proofs.YtojdaifnljghkabGreatDoor.Image
namespace Go.Proofs.YtojdaifnljghkabGreatDoor.M

/-- A number to a power, modulo the group. -/
def pw (a n : Nat) : Nat := a ^ n % 1543
theorem pw_lt (a n : Nat) : pw a n < 1543 := Nat.mod_lt _ (by omega)
theorem pw_zero (a : Nat) : pw a 0 = 1 := by unfold pw; rw [Nat.pow_zero]
theorem pw_one {a : Nat} (h : a < 1543) : pw a 1 = a := by unfold pw; rw [Nat.pow_one, Nat.mod_eq_of_lt h]
theorem pw_add (a m n : Nat) : pw a (m + n) = pw a m * pw a n % 1543 := by unfold pw; rw [Nat.pow_add, Nat.mul_mod]
theorem pw_succ (a n : Nat) : pw a (n + 1) = pw a n * a % 1543 := by
  rw [pw_add]
  unfold pw
  rw [Nat.pow_one]
  simp [Nat.mul_mod]
theorem pw_mul (a m n : Nat) : pw a (m * n) = pw (pw a m) n := by
  unfold pw
  rw [Nat.pow_mul]
  exact Nat.pow_mod _ _ _
theorem pw_even (a n : Nat) : pw a (2 * n) = pw a n * pw a n % 1543 := by rw [show 2 * n = n + n by omega, pw_add]
theorem pw_half_even {a n : Nat} (h : n % 2 = 0) : pw a n = pw a (n / 2) * pw a (n / 2) % 1543 := by rw [← pw_even, show 2 * (n / 2) = n by omega]
theorem pw_half_odd {a n : Nat} (h : n % 2 = 1) : pw a n = (pw a (n / 2) * pw a (n / 2) % 1543) * a % 1543 := by
  rw [← pw_even, ← pw_succ, show 2 * (n / 2) + 1 = n by omega]
/-- 64 has the order 257. -/
theorem pw_order : pw 64 257 = 1 := by decide +kernel
theorem pw_mod (n : Nat) : pw 64 (n % 257) = pw 64 n := by
  have h : pw 64 n = pw 64 (257 * (n / 257)) * pw 64 (n % 257) % 1543 := by rw [← pw_add, Nat.div_add_mod]
  have h1 : ∀ k, pw 1 k = 1 := fun k => by unfold pw; rw [Nat.one_pow]
  rw [h, pw_mul, pw_order, h1, Nat.one_mul, Nat.mod_eq_of_lt (pw_lt _ _)]
/-- The powers of 64, as far as they are unlike. -/
def pws : List Nat := (List.range 257).map (pw 64)
theorem pws_nodup : pws.Nodup := by
  have h : decide pws.Nodup = true := by decide +kernel
  exact of_decide_eq_true h
theorem pw_inj {i j : Nat} (hi : i < 257) (hj : j < 257) (h : pw 64 i = pw 64 j) : i = j := by
  have li : i < pws.length := by simp [pws]; exact hi
  have lj : j < pws.length := by simp [pws]; exact hj
  have e : pws[i] = pws[j] := by simpa [pws] using h
  exact (List.getElem_inj pws_nodup).1 e
theorem pw_iff {i j : Nat} (hi : i < 257) (hj : j < 257) : pw 64 i = pw 64 j ↔ i = j := ⟨pw_inj hi hj, fun e => by rw [e]⟩
theorem pw_pos_fin : ∀ k : Fin 257, 1 ≤ pw 64 k.val := by decide +kernel
theorem pw_pos (n : Nat) : 1 ≤ pw 64 n := by
  rw [← pw_mod]
  exact pw_pos_fin ⟨n % 257, Nat.mod_lt _ (by omega)⟩
theorem pw_ne_one {x : Nat} (h1 : 1 ≤ x) (h2 : x ≤ 256) : pw 64 x ≠ 1 := by
  intro e
  have := pw_inj (i := x) (j := 0) (by omega) (by omega) (by rw [e, pw_zero])
  omega
/-- A seal is right by its key: Schnorr. -/
theorem seal_right (k c x : Nat) : pw 64 ((k + c * x) % 257) = pw 64 k * pw (pw 64 x) c % 1543 := by
  rw [pw_mod, pw_add, Nat.mul_comm c x, pw_mul]
/-- With another answer it is not. -/
theorem seal_other {k c x other : Nat} (h : other < 257) : pw 64 other = pw 64 k * pw (pw 64 x) c % 1543 ↔ other = (k + c * x) % 257 := by
  rw [← seal_right]
  exact pw_iff h (Nat.mod_lt _ (by omega))
/-- Two seals by one number: what the challenges are apart, times the secret, is what the answers are apart. -/
theorem seal_two (k a b x : Nat) : ((((a : Int) - b + 257) * x - ((((k + a * x) % 257 : Nat) : Int) - (((k + b * x) % 257 : Nat) : Int) + 257))) % 257 = 0 := by
  have e : ((a : Int) - b + 257) * x = (a * x : Nat) - (b * x : Nat) + 257 * x := by
    rw [Int.add_mul, Int.sub_mul]
    simp [Int.natCast_mul]
  rw [e]
  generalize a * x = p
  generalize b * x = q
  omega
theorem seal_two_tmod (k a b x : Nat) : Int.tmod (((a : Int) - b + 257) * x - ((((k + a * x) % 257 : Nat) : Int) - (((k + b * x) % 257 : Nat) : Int) + 257)) 257 = 0 :=
  Int.tmod_eq_zero_of_dvd (Int.dvd_of_emod_eq_zero (seal_two k a b x))
end Go.Proofs.YtojdaifnljghkabGreatDoor.M
namespace Go.Proofs.YtojdaifnljghkabGreatDoor.M

/-- Is it a secret? Is it of the group? May it be an answer? -/
def secB (x : Int) : Bool := decide (1 ≤ x ∧ x < 257)
def inB (n : Int) : Bool := decide (1 ≤ n ∧ n < 1543)
def ansB (n : Int) : Bool := decide (0 ≤ n ∧ n < 257)
theorem secB_iff {x : Int} : secB x = true ↔ 1 ≤ x ∧ x < 257 := by unfold secB; simp
theorem secB_not {x : Int} : secB x = false ↔ ¬ (1 ≤ x ∧ x < 257) := by unfold secB; simp
theorem inB_iff {x : Int} : inB x = true ↔ 1 ≤ x ∧ x < 1543 := by unfold inB; simp
theorem inB_not {x : Int} : inB x = false ↔ ¬ (1 ≤ x ∧ x < 1543) := by unfold inB; simp
theorem ansB_iff {x : Int} : ansB x = true ↔ 0 ≤ x ∧ x < 257 := by unfold ansB; simp
theorem ansB_not {x : Int} : ansB x = false ↔ ¬ (0 ≤ x ∧ x < 257) := by unfold ansB; simp
theorem inB_isM {x : Int} (h : inB x = true) : isM x = true := isM_iff.2 (by have := inB_iff.1 h; omega)

/-- A power, of whole numbers. -/
def pwZ (a n : Int) : Int := ((pw a.toNat n.toNat : Nat) : Int)
theorem pwZ_nat (a n : Nat) : pwZ a n = (pw a n : Nat) := rfl
theorem pwZ_lo (a n : Int) : 0 ≤ pwZ a n := Int.natCast_nonneg _
theorem pwZ_hi (a n : Int) : pwZ a n < 1543 := by
  have := pw_lt a.toNat n.toNat
  unfold pwZ
  omega
theorem pwZ_in (n : Int) : inB (pwZ 64 n) = true := by
  rw [inB_iff]
  have h1 := pw_pos n.toNat
  have h2 := pw_lt 64 n.toNat
  unfold pwZ
  have e : (64 : Int).toNat = 64 := rfl
  rw [e]
  omega

/-- The challenge of a point, a key and a measure; what is wrong with it. -/
def chV (p q m : Int) : Int := allV [p, q, m] % 257
theorem chV_lo (p q m : Int) : 0 ≤ chV p q m := by unfold chV; omega
theorem chV_hi (p q m : Int) : chV p q m < 257 := by unfold chV; omega
theorem ok_three {p q m : Int} (hp : isM p = true) (hq : isM q = true) : okAll [p, q, m] = isM m := by simp [okAll, hp, hq]
theorem allC_three {p q m : Int} (hp : isM p = true) (hq : isM q = true) : allC [p, q, m] = if isM m = true then 0 else 1 := by
  unfold allC
  rw [if_neg (by simp), ok_three hp hq]
theorem allV_three {p q m : Int} (hp : isM p = true) (hq : isM q = true) (hm : isM m = true) : allV [p, q, m] = allFrom 0 [p, q, m] := by
  unfold allV
  rw [if_neg (by simp), ok_three hp hq, if_pos hm]
theorem chV_ok {p q m : Int} (hp : isM p = true) (hq : isM q = true) (hm : isM m = true) : chV p q m = allFrom 0 [p, q, m] % 257 := by
  unfold chV
  rw [allV_three hp hq hm]

/-- A public key; what is wrong. -/
def pubC (x : Int) : Int := if secB x = true then 0 else 1
def pubV (x : Int) : Int := if secB x = true then pwZ 64 x else 0
theorem pubC_ok {x : Int} (h : secB x = true) : pubC x = 0 := if_pos h
theorem pubV_ok {x : Int} (h : secB x = true) : pubV x = pwZ 64 x := if_pos h
theorem pubC_no {x : Int} (h : secB x = false) : pubC x = 1 := by unfold pubC; rw [h]; rfl
theorem pubV_no {x : Int} (h : secB x = false) : pubV x = 0 := by unfold pubV; rw [h]; rfl

/-- A seal: its challenge, what is wrong, its point, its answer. -/
def sigH (x k m : Int) : Int := chV (pwZ 64 k) (pwZ 64 x) m
def sigC (x k m : Int) : Int := if secB x = true ∧ secB k = true ∧ isM m = true then 0 else 1
def sigP (x k m : Int) : Int := if secB x = true ∧ secB k = true ∧ isM m = true then pwZ 64 k else 0
def sigA (x k m : Int) : Int := if secB x = true ∧ secB k = true ∧ isM m = true then (k + sigH x k m * x) % 257 else 0
theorem sigC_ok {x k m : Int} (hx : secB x = true) (hk : secB k = true) (hm : isM m = true) : sigC x k m = 0 := if_pos ⟨hx, hk, hm⟩
theorem sigP_ok {x k m : Int} (hx : secB x = true) (hk : secB k = true) (hm : isM m = true) : sigP x k m = pwZ 64 k := if_pos ⟨hx, hk, hm⟩
theorem sigA_ok {x k m : Int} (hx : secB x = true) (hk : secB k = true) (hm : isM m = true) : sigA x k m = (k + sigH x k m * x) % 257 := if_pos ⟨hx, hk, hm⟩
theorem sig_no {x k m : Int} (h : secB x = false ∨ secB k = false ∨ isM m = false) : sigC x k m = 1 ∧ sigP x k m = 0 ∧ sigA x k m = 0 := by
  have hn : ¬ (secB x = true ∧ secB k = true ∧ isM m = true) := by
    rintro ⟨a, b, c⟩
    rw [a, b, c] at h
    simp at h
  unfold sigC sigP sigA
  rw [if_neg hn, if_neg hn, if_neg hn]
  exact ⟨rfl, rfl, rfl⟩
theorem sigC_zero {x k m : Int} (h : sigC x k m = 0) : secB x = true ∧ secB k = true ∧ isM m = true := by
  unfold sigC at h
  split at h
  · assumption
  · cases h

/-- Is a seal right: its form, and what it says. -/
def formB (q m p a : Int) : Bool := inB q && inB p && isM m && ansB a
def saysB (q m p a : Int) : Bool := decide (pwZ 64 a = p * pwZ q (chV p q m) % 1543)
def rigC (q m p a : Int) : Int := if formB q m p a = true then (if saysB q m p a = true then 0 else 8) else 1
def chkC (q m p a : Int) : Int := if formB q m p a = true then 0 else 1
def chkB (q m p a : Int) : Bool := formB q m p a && saysB q m p a
theorem formB_iff {q m p a : Int} : formB q m p a = true ↔ inB q = true ∧ inB p = true ∧ isM m = true ∧ ansB a = true := by
  unfold formB
  simp [Bool.and_eq_true, and_assoc]
theorem form_no {q m p a : Int} (h : inB q = false ∨ inB p = false ∨ isM m = false ∨ ansB a = false) : formB q m p a = false := by
  unfold formB
  rcases h with h | h | h | h <;> rw [h] <;> simp
theorem rigC_no {q m p a : Int} (h : formB q m p a = false) : rigC q m p a = 1 := by unfold rigC; rw [h]; rfl
theorem chkC_no {q m p a : Int} (h : formB q m p a = false) : chkC q m p a = 1 := by unfold chkC; rw [h]; rfl
theorem chkB_no {q m p a : Int} (h : formB q m p a = false) : chkB q m p a = false := by unfold chkB; rw [h]; rfl
theorem chkC_ok {q m p a : Int} (h : formB q m p a = true) : chkC q m p a = 0 := by unfold chkC; rw [h]; rfl
theorem chkB_ok {q m p a : Int} (h : formB q m p a = true) : chkB q m p a = saysB q m p a := by unfold chkB; rw [h]; rfl
theorem rigC_yes {q m p a : Int} (h : formB q m p a = true) (hs : saysB q m p a = true) : rigC q m p a = 0 := by unfold rigC; rw [h, hs]; rfl
theorem rigC_else {q m p a : Int} (h : formB q m p a = true) (hs : saysB q m p a = false) : rigC q m p a = 8 := by unfold rigC; rw [h, hs]; rfl
theorem rig_chk (q m p a : Int) : (rigC q m p a = 0 ∧ chkC q m p a = 0 ∧ chkB q m p a = true) ∨ (rigC q m p a = 8 ∧ chkC q m p a = 0 ∧ chkB q m p a = false) ∨ (rigC q m p a = 1 ∧ chkC q m p a = 1 ∧ chkB q m p a = false) := by
  cases h : formB q m p a with
  | false => exact Or.inr (Or.inr ⟨rigC_no h, chkC_no h, chkB_no h⟩)
  | true =>
    cases hs : saysB q m p a with
    | true => exact Or.inl ⟨rigC_yes h hs, chkC_ok h, by rw [chkB_ok h, hs]⟩
    | false => exact Or.inr (Or.inl ⟨rigC_else h hs, chkC_ok h, by rw [chkB_ok h, hs]⟩)

/-- A seal is right by its key, and with no other answer. -/
theorem says_own {x k m other : Int} (hx : secB x = true) (hk : secB k = true) (hm : isM m = true) (ho : ansB other = true) : saysB (pwZ 64 x) m (pwZ 64 k) other = decide (other = sigA x k m) := by
  have x1 := secB_iff.1 hx
  have k1 := secB_iff.1 hk
  have o1 := ansB_iff.1 ho
  have c0 := chV_lo (pwZ 64 k) (pwZ 64 x) m
  unfold saysB
  rw [sigA_ok hx hk hm]
  unfold sigH
  generalize chV (pwZ 64 k) (pwZ 64 x) m = c at *
  obtain ⟨x, rfl⟩ : ∃ n : Nat, x = n := ⟨x.toNat, by omega⟩
  obtain ⟨k, rfl⟩ : ∃ n : Nat, k = n := ⟨k.toNat, by omega⟩
  obtain ⟨o, rfl⟩ : ∃ n : Nat, other = n := ⟨other.toNat, by omega⟩
  obtain ⟨c, rfl⟩ : ∃ n : Nat, c = n := ⟨c.toNat, by omega⟩
  have h := @seal_other k c x o (by omega)
  have e1 : pwZ 64 (o : Int) = (pw 64 o : Nat) := rfl
  have e2 : pwZ 64 (k : Int) = (pw 64 k : Nat) := rfl
  have e3 : pwZ (pwZ 64 (x : Int)) (c : Int) = (pw (pw 64 x) c : Nat) := rfl
  rw [e1, e2, e3]
  apply decide_eq_decide.2
  generalize pw 64 o = A at h ⊢
  generalize pw 64 k = B at h ⊢
  generalize pw (pw 64 x) c = C at h ⊢
  rw [← Int.natCast_mul, ← Int.natCast_mul]
  generalize B * C = D at h ⊢
  generalize c * x = E at h ⊢
  constructor
  · intro e
    have := h.1 (by omega)
    omega
  · intro e
    have := h.2 (by omega)
    omega
theorem sigA_ans {x k m : Int} : ansB (sigA x k m) = true := by
  rw [ansB_iff]
  unfold sigA
  split <;> omega
/-- Two seals by one number tell the secret. -/
theorem two_tell {x k m n : Int} (hx : secB x = true) (hk : secB k = true) (hm : isM m = true) (hn : isM n = true) :
    Int.tmod ((sigH x k m - sigH x k n + 257) * x - (sigA x k m - sigA x k n + 257)) 257 = 0 := by
  have x1 := secB_iff.1 hx
  have k1 := secB_iff.1 hk
  have c0 := chV_lo (pwZ 64 k) (pwZ 64 x) m
  have d0 := chV_lo (pwZ 64 k) (pwZ 64 x) n
  rw [sigA_ok hx hk hm, sigA_ok hx hk hn]
  unfold sigH
  generalize chV (pwZ 64 k) (pwZ 64 x) m = c at *
  generalize chV (pwZ 64 k) (pwZ 64 x) n = d at *
  obtain ⟨x, rfl⟩ : ∃ n : Nat, x = n := ⟨x.toNat, by omega⟩
  obtain ⟨k, rfl⟩ : ∃ n : Nat, k = n := ⟨k.toNat, by omega⟩
  obtain ⟨c, rfl⟩ : ∃ n : Nat, c = n := ⟨c.toNat, by omega⟩
  obtain ⟨d, rfl⟩ : ∃ n : Nat, d = n := ⟨d.toNat, by omega⟩
  exact seal_two_tmod k c d x
/-- All secrets are unlike, and so are their keys. -/
theorem keys_unlike {x y : Int} (hx : secB x = true) (hy : secB y = true) : (pwZ 64 x == pwZ 64 y) = (x == y) ∧ pwZ 64 x ≠ 1 := by
  have x1 := secB_iff.1 hx
  have y1 := secB_iff.1 hy
  obtain ⟨x, rfl⟩ : ∃ n : Nat, x = n := ⟨x.toNat, by omega⟩
  obtain ⟨y, rfl⟩ : ∃ n : Nat, y = n := ⟨y.toNat, by omega⟩
  have h := @pw_iff x y (by omega) (by omega)
  have g := @pw_ne_one x (by omega) (by omega)
  have e1 : pwZ 64 (x : Int) = (pw 64 x : Nat) := rfl
  have e2 : pwZ 64 (y : Int) = (pw 64 y : Nat) := rfl
  rw [e1, e2]
  generalize pw 64 x = A at h g ⊢
  generalize pw 64 y = B at h ⊢
  constructor
  · rw [Bool.eq_iff_iff, beq_iff_eq, beq_iff_eq]
    constructor
    · intro e
      have := h.1 (by omega)
      omega
    · intro e
      have := h.2 (by omega)
      omega
  · intro e
    exact g (by omega)
end Go.Proofs.YtojdaifnljghkabGreatDoor.M
namespace Go.Proofs.YtojdaifnljghkabGreatDoor.Key
open Go.ChangeShapes Go.WideShapes Go.ChangeAt Go.RowKit
open Go.Proofs.YtojdaifnljghkabGreatDoor.M
set_option linter.unusedVariables false

theorem ret_one {k : IntKind} {a b : Int} (h : a = b) : Ending.returned (.int k a) = .returned (.int k b) := by rw [h]

theorem ret_true {b : Bool} (h : b = true) : Ending.returned (.bool b) = .returned (.bool true) := by rw [h]

theorem secret_any (n : Int) (w : World) :
    Calls Tryz.prog 45 #[.int .i64 n] w fun e w' => e = .returned (.bool (secB n)) ∧ w' = w := by
  by_cases h0 : 1 ≤ n
  · by_cases h1 : n < 257
    · rw [secB_iff.2 ⟨h0, h1⟩]
      go_enter Tryz.func45, Tryz.ntmps45
      go_wp2
      go_ret
      exact ⟨rfl, rfl⟩
    · rw [secB_not.2 (by omega)]
      go_enter Tryz.func45, Tryz.ntmps45
      go_wp2
      go_ret
      exact ⟨rfl, rfl⟩
  · rw [secB_not.2 (by omega)]
    go_enter Tryz.func45, Tryz.ntmps45
    go_wp2
    go_ret
    exact ⟨rfl, rfl⟩

theorem public_is (n : Int) (w : World) :
    Calls Tryz.prog 44 #[.int .i64 n] w fun e w' => e = .returned (.bool (inB n)) ∧ w' = w := by
  by_cases h0 : 1 ≤ n
  · by_cases h1 : n < 1543
    · rw [inB_iff.2 ⟨h0, h1⟩]
      go_enter Tryz.func44, Tryz.ntmps44
      go_wp2
      go_ret
      exact ⟨rfl, rfl⟩
    · rw [inB_not.2 (by omega)]
      go_enter Tryz.func44, Tryz.ntmps44
      go_wp2
      go_ret
      exact ⟨rfl, rfl⟩
  · rw [inB_not.2 (by omega)]
    go_enter Tryz.func44, Tryz.ntmps44
    go_wp2
    go_ret
    exact ⟨rfl, rfl⟩

set_option maxHeartbeats 400000 in
theorem power_nat (a n : Nat) (w : World) (ha : a < 1543) (hn : n < 1000) :
    Calls Tryz.prog 56 #[.int .i64 a, .int .i64 n] w fun e w' => e = .returned (.int .i64 (pw a n : Nat)) ∧ w' = w := by
  go_enter Tryz.func56, Tryz.ntmps56
  go_wp2
  go_loop [5, 7] (fun p i => ∃ k : Nat, k ≤ n ∧ i = .int .i64 k ∧ p = .int .i64 (pw a k : Nat)) (fun _ i => n - (intOf i).toNat)
  case atStart => exact ⟨0, by omega, rfl, by rw [pw_zero]; rfl⟩
  case round =>
    obtain ⟨k, hk, rfl, rfl⟩ := hrel
    by_cases hlt : k < n
    · have hlz : (k : Int) < n := by omega
      have E := hide (pw_succ a k)
      have hq := pw_lt a k
      generalize hqe : pw a k = q at *
      have hm0 : 0 ≤ (q : Int) * a := Int.mul_nonneg (by omega) (by omega)
      have hm1 : (q : Int) * a ≤ 1543 * 1543 := Int.mul_le_mul (by omega) (by omega) (by omega) (by omega)
      go_wp2
      go_round
      case rel => exact ⟨k + 1, by omega, by go_num, by rw [E.out]; simp [Int.natCast_mul]⟩
      case measure => simp [intOf]; omega
    · have hkn : k = n := by omega
      have hlz : ¬ (k : Int) < n := by omega
      go_wp2
      go_ret
      exact ⟨rfl, rfl⟩
theorem power_any (a n : Int) (w : World) (ha0 : 0 ≤ a) (ha : a < 1543) (hn0 : 0 ≤ n) (hn : n < 1000) :
    Calls Tryz.prog 56 #[.int .i64 a, .int .i64 n] w fun e w' => e = .returned (.int .i64 (pwZ a n)) ∧ w' = w := by
  obtain ⟨a, rfl⟩ : ∃ k : Nat, a = k := ⟨a.toNat, by omega⟩
  obtain ⟨n, rfl⟩ : ∃ k : Nat, n = k := ⟨n.toNat, by omega⟩
  exact power_nat a n w (by omega) (by omega)

theorem public_ok (x : Int) (w : World) (h : secB x = true) :
    Calls Tryz.prog 12 #[.int .i64 x] w fun e w' => e = .returned (.tuple #[.int .i64 (pwZ 64 x), .nilIface]) ∧ w' = w := by
  have hr := secB_iff.1 h
  obtain ⟨h0, h1⟩ := hr
  go_enter Tryz.func12, Tryz.ntmps12
  go_wp2_with (first | (go_at_call 45; refine (secret_any _ _).mono ?_; rintro e w' ⟨rfl, rfl⟩) | (go_at_call 56; refine (power_any _ _ _ (by omega) (by omega) (by omega) (by omega)).mono ?_; rintro e w' ⟨rfl, rfl⟩))
  go_ret2
  exact ⟨rfl, rfl⟩
theorem public_no (x : Int) (w : World) (h : secB x = false) :
    Calls Tryz.prog 12 #[.int .i64 x] w fun e w' => e = .returned (.tuple #[.int .i64 0, .iface 96 (.int .i64 1)]) ∧ w' = w := by
  go_enter Tryz.func12, Tryz.ntmps12
  go_wp2_with (go_at_call 45; refine (secret_any _ _).mono ?_; rintro e w' ⟨rfl, rfl⟩)
  go_ret2
  exact ⟨rfl, rfl⟩
theorem public_any (x : Int) (w : World) :
    Calls Tryz.prog 12 #[.int .i64 x] w fun e w' => e = .returned (.tuple #[.int .i64 (pubV x), errV 96 (pubC x)]) ∧ w' = w := by
  cases h : secB x with
  | true => rw [pubV_ok h, pubC_ok h]; exact public_ok x w h
  | false => rw [pubV_no h, pubC_no h]; exact public_no x w h
end Go.Proofs.YtojdaifnljghkabGreatDoor.Key
namespace Go.Proofs.YtojdaifnljghkabGreatDoor.Key
open Go.ChangeShapes Go.WideShapes Go.ChangeAt Go.RowKit
open Go.Proofs.YtojdaifnljghkabGreatDoor.M Go.Proofs.YtojdaifnljghkabGreatDoor.Measure
set_option linter.unusedVariables false

set_option maxHeartbeats 1000000 in
theorem challenge_ok (p q m : Int) (w : World) (hp : isM p = true) (hq : isM q = true) (hm : isM m = true) :
    Calls Tryz.prog 109 #[.int .i64 p, .int .i64 q, .int .i64 m] w fun e w' => e = .returned (.tuple #[.int .i64 (chV p q m), .nilIface]) ∧ Below w.heap.size w w' := by
  have HO := hide (show okAll [p, q, m] = true by rw [ok_three hp hq, hm])
  have HC := hide (chV_ok hp hq hm)
  have hr := allFrom_range 0 [p, q, m] (by omega) (by omega)
  clear hp hq hm
  obtain ⟨r0, r1⟩ := hr
  go_enter Tryz.func109, Tryz.ntmps109
  go_wp2_with (fail)
  refine (all_ok _ [p, q, m] 3 _ _ rfl (by omega) (Row.three (blk_new _ _)) HO.out).mono ?_
  rintro e w1 ⟨rfl, rfl⟩
  generalize allFrom 0 [p, q, m] = r at *
  go_wp2
  go_ret2
  exact ⟨by rw [HC.out]; rfl, below_new _ _⟩

set_option maxHeartbeats 1000000 in
theorem challenge_no (p q m : Int) (w : World) (hp : isM p = true) (hq : isM q = true) (hm : isM m = false) :
    Calls Tryz.prog 109 #[.int .i64 p, .int .i64 q, .int .i64 m] w fun e w' => e = .returned (.tuple #[.int .i64 0, .iface 96 (.int .i64 1)]) ∧ Below w.heap.size w w' := by
  have HO := hide (show okAll [p, q, m] = false by rw [ok_three hp hq, hm])
  clear hp hq hm
  go_enter Tryz.func109, Tryz.ntmps109
  go_wp2_with (fail)
  refine (all_bad _ [p, q, m] 3 _ _ rfl (by omega) (Row.three (blk_new _ _)) HO.out).mono ?_
  rintro e w1 ⟨rfl, rfl⟩
  go_wp2
  go_ret2
  exact ⟨rfl, below_new _ _⟩

theorem info_seal : (Tryz.prog.info? 25).map (·.size) = some 2 := by kernel_rfl
/-- A seal out of its block. -/
theorem load_seal {w : World} {b : Nat} {c : Array Value} {fr : Nat × Nat} (h : w.heap[b]? = some (.cells c 25 fr)) (hs : c.size = 2) : (loadVar 25 ⟨b, 0, none⟩).run Tryz.prog w = .ok (.agg c) w :=
  run_loadVar_row w b _ _ c fr _ h Tryz.underlying25 rfl (by rw [info_seal, hs])
theorem results_seal {fn : Func} {p u : Tmp} (h : fn.results = #[.cell p 25, .tmp u]) (tmps : Array Value) (w : World) (b : Nat) (c : Array Value) (v : Value) (hp : tmps.getD p undef = .pointer (some ⟨b, 0, none⟩)) (hu : tmps.getD u undef = v)
    (hg : w.heap[b]? = some (.cells c 25)) (hs : c.size = 2) : (results fn tmps).run Tryz.prog w = .ok (.tuple #[.agg c, v]) w := by
  rw [results_cell_tmp h, hp, hu]
  simp [asAddr, load_seal hg hs, Result.andThen]

set_option maxHeartbeats 2000000 in
theorem sign_any (x k m : Int) (w : World) :
    Calls Tryz.prog 77 #[.int .i64 x, .int .i64 k, .int .i64 m] w fun e w' => e = .returned (.tuple #[.agg (sealC (sigP x k m) (sigA x k m)), errV 96 (sigC x k m)]) ∧ Below w.heap.size w w' := by
  have HB0 := hide (below_new w (.cells #[.int .i64 0, .int .i64 0] 25))
  have HG0 := hide (blk_new w (.cells #[.int .i64 0, .int .i64 0] 25))
  obtain ⟨r0, r1⟩ := seal_cells HG0.out
  obtain ⟨g0, g1⟩ := seal_free HG0.out
  cases hx : secB x with
  | false =>
    obtain ⟨e1, e2, e3⟩ := sig_no (k := k) (m := m) (Or.inl hx)
    rw [e1, e2, e3]
    clear e1 e2 e3
    go_enter Tryz.func77, Tryz.ntmps77
    go_wp2_with (go_at_call 12; refine (public_no _ _ (by assumption)).mono ?_; rintro e w' ⟨rfl, rfl⟩)
    refine bodyPost_ret (v := .tuple #[.agg (sealC 0 0), .iface 96 (.int .i64 1)]) ?_ rfl ⟨?_, ?_⟩
    · exact results_seal (p := 6) (u := 7) rfl _ _ w.heap.size _ _ rfl rfl HG0.out rfl
    · rfl
    · exact HB0.out
  | true =>
    cases hk : secB k with
    | false =>
      obtain ⟨e1, e2, e3⟩ := sig_no (x := x) (m := m) (Or.inr (Or.inl hk))
      rw [e1, e2, e3]
      clear e1 e2 e3
      go_enter Tryz.func77, Tryz.ntmps77
      go_wp2_with (go_at_call 12; (first | refine (public_no _ _ (by assumption)).mono ?_ | refine (public_ok _ _ (by assumption)).mono ?_); rintro e w' ⟨rfl, rfl⟩)
      refine bodyPost_ret (v := .tuple #[.agg (sealC 0 0), .iface 96 (.int .i64 1)]) ?_ rfl ⟨?_, ?_⟩
      · exact results_seal (p := 6) (u := 7) rfl _ _ w.heap.size _ _ rfl rfl HG0.out rfl
      · rfl
      · exact HB0.out
    | true =>
      have PX := hide (fun W => public_ok x W hx)
      have PK := hide (fun W => public_ok k W hk)
      have MX := hide (inB_isM (pwZ_in x))
      have MK := hide (inB_isM (pwZ_in k))
      cases hm : isM m with
      | false =>
        obtain ⟨e1, e2, e3⟩ := sig_no (x := x) (k := k) (Or.inr (Or.inr hm))
        rw [e1, e2, e3]
        have HM := hide hm
        clear e1 e2 e3 hx hk hm
        generalize pwZ 64 x = q at *
        generalize pwZ 64 k = p at *
        go_enter Tryz.func77, Tryz.ntmps77
        go_wp2_with (fail)
        refine (PX.out _).mono ?_
        rintro e w1 ⟨rfl, rfl⟩
        go_wp2_with (fail)
        refine (PK.out _).mono ?_
        rintro e w1 ⟨rfl, rfl⟩
        go_wp2_with (fail)
        refine (challenge_no p q m _ MK.out MX.out HM.out).mono ?_
        rintro e w1 ⟨rfl, hb1⟩
        have HB1 := hide (below_on HB0.out hb1)
        have HG1 := hide (blk_below HG0.out hb1)
        clear hb1 HB0 HG0 r0 r1 g0 g1
        obtain ⟨r0, r1⟩ := seal_cells HG1.out
        obtain ⟨g0, g1⟩ := seal_free HG1.out
        go_wp2
        rw [two_set HG1.out]
        refine bodyPost_ret (v := .tuple #[.agg (sealC 0 0), .iface 96 (.int .i64 1)]) ?_ rfl ⟨?_, ?_⟩
        · exact results_seal (p := 6) (u := 7) rfl _ _ w.heap.size _ _ rfl rfl (setRow_heap _ _ _ _ _ _ HG1.out) rfl
        · rfl
        · exact below_setRow HB1.out (by omega) _
      | true =>
        rw [sigC_ok hx hk hm, sigP_ok hx hk hm, sigA_ok hx hk hm]
        unfold sigH
        have HM := hide hm
        have xr := secB_iff.1 hx
        have kr := secB_iff.1 hk
        obtain ⟨x0, x1⟩ := xr
        obtain ⟨k0, k1⟩ := kr
        clear hx hk hm
        generalize pwZ 64 x = q at *
        generalize pwZ 64 k = p at *
        have CH := hide (fun W => challenge_ok p q m W MK.out MX.out HM.out)
        have c0 := chV_lo p q m
        have c1 := chV_hi p q m
        generalize chV p q m = c at *
        have hm0 : 0 ≤ c * x := Int.mul_nonneg c0 (by omega)
        have hm1 : c * x ≤ 257 * 257 := Int.mul_le_mul (by omega) (by omega) (by omega) (by omega)
        go_enter Tryz.func77, Tryz.ntmps77
        go_wp2_with (fail)
        refine (PX.out _).mono ?_
        rintro e w1 ⟨rfl, rfl⟩
        go_wp2_with (fail)
        refine (PK.out _).mono ?_
        rintro e w1 ⟨rfl, rfl⟩
        go_wp2_with (fail)
        refine (CH.out _).mono ?_
        rintro e w1 ⟨rfl, hb1⟩
        have HB1 := hide (below_on HB0.out hb1)
        have HG1 := hide (blk_below HG0.out hb1)
        clear hb1 HB0 HG0 r0 r1 g0 g1
        obtain ⟨r0, r1⟩ := seal_cells HG1.out
        obtain ⟨g0, g1⟩ := seal_free HG1.out
        go_wp2
        rw [two_set HG1.out]
        refine bodyPost_ret (v := .tuple #[.agg (sealC p ((k + c * x) % 257)), .nilIface]) ?_ rfl ⟨?_, ?_⟩
        · exact results_seal (p := 6) (u := 7) rfl _ _ w.heap.size _ _ rfl rfl (setRow_heap _ _ _ _ _ _ HG1.out) rfl
        · rfl
        · exact below_setRow HB1.out (by omega) _
end Go.Proofs.YtojdaifnljghkabGreatDoor.Key
namespace Go.Proofs.YtojdaifnljghkabGreatDoor.Key
open Go.ChangeShapes Go.WideShapes Go.ChangeAt Go.RowKit
open Go.Proofs.YtojdaifnljghkabGreatDoor.M Go.Proofs.YtojdaifnljghkabGreatDoor.Measure
set_option linter.unusedVariables false

theorem below_quiet {B : Nat} {a w : World} (h : Below B a w) : ∀ n, Below B a (w.drewN n)
  | 0 => h
  | n + 1 => Below.drew (below_quiet h n)

set_option maxHeartbeats 2000000 in
theorem check_form (q m p a : Int) (w : World) (h : inB q = false ∨ inB p = false ∨ ansB a = false) :
    Calls Tryz.prog 128 #[.int .i64 q, .int .i64 m, .agg (sealC p a)] w fun e w' => e = .returned (.tuple #[.bool false, .iface 96 (.int .i64 1)]) ∧ Below w.heap.size w w' := by
  have HB := hide (below_new w (.cells (sealC p a) 25))
  unfold sealC at HB ⊢
  have HF := hide h
  clear h
  cases hq : inB q with
  | false =>
    go_enter Tryz.func128, Tryz.ntmps128
    go_wp2_with (go_at_call 44; refine (public_is _ _).mono ?_; rintro e w' ⟨rfl, rfl⟩)
    go_ret2
    exact ⟨rfl, HB.out⟩
  | true =>
    cases hp : inB p with
    | false =>
      go_enter Tryz.func128, Tryz.ntmps128
      go_wp2_with (go_at_call 44; refine (public_is _ _).mono ?_; rintro e w' ⟨rfl, rfl⟩)
      go_ret2
      exact ⟨rfl, HB.out⟩
    | true =>
      by_cases h0 : a < 0
      · go_enter Tryz.func128, Tryz.ntmps128
        go_wp2_with (go_at_call 44; refine (public_is _ _).mono ?_; rintro e w' ⟨rfl, rfl⟩)
        go_ret2
        exact ⟨rfl, HB.out⟩
      · have h1 : 257 ≤ a := by
          have := HF.out
          rw [hq, hp, ansB_not] at this
          simp at this
          omega
        go_enter Tryz.func128, Tryz.ntmps128
        go_wp2_with (go_at_call 44; refine (public_is _ _).mono ?_; rintro e w' ⟨rfl, rfl⟩)
        go_ret2
        exact ⟨rfl, HB.out⟩

set_option maxHeartbeats 2000000 in
theorem check_meas (q m p a : Int) (w : World) (hq : inB q = true) (hp : inB p = true) (ha : ansB a = true) (hm : isM m = false) :
    Calls Tryz.prog 128 #[.int .i64 q, .int .i64 m, .agg (sealC p a)] w fun e w' => e = .returned (.tuple #[.bool false, .iface 96 (.int .i64 1)]) ∧ Below w.heap.size w w' := by
  have HB := hide (below_new w (.cells (sealC p a) 25))
  unfold sealC at HB ⊢
  have ar := ansB_iff.1 ha
  obtain ⟨a0, a1⟩ := ar
  have CH := hide (fun W => challenge_no p q m W (inB_isM hp) (inB_isM hq) hm)
  clear ha hm
  go_enter Tryz.func128, Tryz.ntmps128
  go_wp2_with (go_at_call 44; refine (public_is _ _).mono ?_; rintro e w' ⟨rfl, rfl⟩)
  refine (CH.out _).mono ?_
  rintro e w1 ⟨rfl, hb1⟩
  have HB1 := hide (below_on HB.out hb1)
  clear hb1 HB
  go_wp2
  go_ret2
  exact ⟨rfl, HB1.out⟩

set_option maxHeartbeats 400000 in
theorem check_ok (q m p a : Int) (w : World) (hq : inB q = true) (hp : inB p = true) (ha : ansB a = true) (hm : isM m = true) :
    Calls Tryz.prog 128 #[.int .i64 q, .int .i64 m, .agg (sealC p a)] w fun e w' => e = .returned (.tuple #[.bool (saysB q m p a), .nilIface]) ∧ Below w.heap.size w w' := by
  have HB := hide (below_new w (.cells (sealC p a) 25))
  have HG := hide (blk_new w (.cells (sealC p a) 25))
  unfold sealC at HB HG ⊢
  have ar := ansB_iff.1 ha
  obtain ⟨a0, a1⟩ := ar
  have qr := inB_iff.1 hq
  obtain ⟨q0, q1⟩ := qr
  have pr := inB_iff.1 hp
  obtain ⟨p0, p1⟩ := pr
  have CH := hide (fun W => challenge_ok p q m W (inB_isM hp) (inB_isM hq) hm)
  clear ha hm
  unfold saysB
  have c0 := chV_lo p q m
  have c1 := chV_hi p q m
  generalize chV p q m = c at *
  have PA := hide (fun W => power_any 64 a W (by omega) (by omega) a0 (by omega))
  have PC := hide (fun W => power_any q c W (by omega) (by omega) c0 (by omega))
  have u0 := pwZ_lo 64 a
  have u1 := pwZ_hi 64 a
  have v0 := pwZ_lo q c
  have v1 := pwZ_hi q c
  generalize pwZ 64 a = u at *
  generalize pwZ q c = v at *
  have hm0 : 0 ≤ p * v := Int.mul_nonneg (by omega) v0
  have hm1 : p * v ≤ 1543 * 1543 := Int.mul_le_mul (by omega) (by omega) (by omega) (by omega)
  go_enter Tryz.func128, Tryz.ntmps128
  go_wp2_with (go_at_call 44; refine (public_is _ _).mono ?_; rintro e w' ⟨rfl, rfl⟩)
  refine (CH.out _).mono ?_
  rintro e w1 ⟨rfl, hb1⟩
  have HB1 := hide (below_on HB.out hb1)
  have HG1 := hide (blk_below HG.out hb1)
  clear hb1 HB HG
  obtain ⟨r0, r1⟩ := seal_cells HG1.out
  go_wp2_with (fail)
  go_quiet (first | (go_at_call_of 56 (Value.int .i64 a); exact Calls.quiet_of_same (PA.out _)) | (go_at_call_of 56 (Value.int .i64 c); exact Calls.quiet_of_same (PC.out _)))
  go_wp2
  go_ret2
  exact ⟨by rfl, below_quiet HB1.out _⟩

theorem check_any (q m p a : Int) (w : World) :
    Calls Tryz.prog 128 #[.int .i64 q, .int .i64 m, .agg (sealC p a)] w fun e w' => e = .returned (.tuple #[.bool (chkB q m p a), errV 96 (chkC q m p a)]) ∧ Below w.heap.size w w' := by
  cases hq : inB q with
  | false =>
    have hf := form_no (m := m) (p := p) (a := a) (Or.inl hq)
    rw [chkB_no hf, chkC_no hf]
    exact check_form q m p a w (Or.inl hq)
  | true =>
    cases hp : inB p with
    | false =>
      have hf := form_no (q := q) (m := m) (a := a) (Or.inr (Or.inl hp))
      rw [chkB_no hf, chkC_no hf]
      exact check_form q m p a w (Or.inr (Or.inl hp))
    | true =>
      cases ha : ansB a with
      | false =>
        have hf := form_no (q := q) (m := m) (p := p) (Or.inr (Or.inr (Or.inr ha)))
        rw [chkB_no hf, chkC_no hf]
        exact check_form q m p a w (Or.inr (Or.inr ha))
      | true =>
        cases hm : isM m with
        | false =>
          have hf := form_no (q := q) (p := p) (a := a) (Or.inr (Or.inr (Or.inl hm)))
          rw [chkB_no hf, chkC_no hf]
          exact check_meas q m p a w hq hp ha hm
        | true =>
          have hf := formB_iff.2 ⟨hq, hp, hm, ha⟩
          rw [chkB_ok hf, chkC_ok hf]
          exact check_ok q m p a w hq hp ha hm

set_option maxHeartbeats 2000000 in
theorem hold_any (q m p a : Int) (w : World) :
    Calls Tryz.prog 102 #[.int .i64 q, .int .i64 m, .agg (sealC p a)] w fun e w' => e = .returned (errV 96 (rigC q m p a)) ∧ Below w.heap.size w w' := by
  have HB0 := hide (below_new w (.cells (sealC p a) 25))
  have CK := hide (fun W => check_any q m p a W)
  have RC := hide (rig_chk q m p a)
  unfold sealC at HB0 CK ⊢
  generalize rigC q m p a = rc at *
  generalize chkC q m p a = cc at *
  generalize chkB q m p a = cb at *
  go_enter Tryz.func102, Tryz.ntmps102
  go_wp2_with (fail)
  refine (CK.out _).mono ?_
  rintro e w2 ⟨rfl, hb2⟩
  have HB2 := hide (below_on HB0.out hb2)
  clear hb2 HB0 CK
  rcases RC.out with ⟨rfl, rfl, rfl⟩ | ⟨rfl, rfl, rfl⟩ | ⟨rfl, rfl, rfl⟩
  · rw [errV_zero]
    go_wp2
    go_ret
    exact ⟨rfl, HB2.out⟩
  · rw [errV_zero]
    go_wp2
    go_ret
    exact ⟨rfl, HB2.out⟩
  · rw [errV_one]
    go_wp2
    go_ret
    exact ⟨rfl, HB2.out⟩
end Go.Proofs.YtojdaifnljghkabGreatDoor.Key
namespace Go.Proofs.YtojdaifnljghkabGreatDoor.M
open Go.RowKit Go.ChangeShapes Go.WideShapes Go.ChangeAt

section
variable {α : Type} {n : Nat} {cv : α → List Value}

/-- A slice of records that stand in memory: none at all, or rows of cells from one address on. -/
def RRow (n : Nat) (cv : α → List Value) (w : World) (a : Option Addr) (xs : List α) : Prop :=
  xs = [] ∨ ∃ b off, a = some ⟨b, off, none⟩ ∧ ∀ (k : Nat) (x : α), xs[k]? = some x → ∀ (j : Nat) (v : Value), (cv x)[j]? = some v → w.cell? ⟨b, off + k * n + j, none⟩ = some v
theorem RRow.nil (w : World) (a : Option Addr) : RRow n cv w a [] := Or.inl rfl
theorem RRow.below {w w' : World} {a : Option Addr} {xs : List α} (h : RRow n cv w a xs) (hb : Below w.heap.size w w') : RRow n cv w' a xs := by
  rcases h with h | ⟨b, off, ha, hc⟩
  · exact Or.inl h
  · refine Or.inr ⟨b, off, ha, fun k x hx j v hv => ?_⟩
    have h1 := hc k x hx j v hv
    rw [hb.cell (p := ⟨b, off + k * n + j, none⟩) (World.block_lt_of_cell? w _ h1)]
    exact h1
theorem RRow.take {w : World} {a : Option Addr} {xs : List α} (h : RRow n cv w a xs) (k : Nat) : RRow n cv w a (xs.take k) := by
  rcases h with h | ⟨b, off, ha, hc⟩
  · exact Or.inl (by rw [h]; simp)
  · refine Or.inr ⟨b, off, ha, fun i x hx => hc i x ?_⟩
    rw [List.getElem?_take] at hx
    split at hx
    · exact hx
    · cases hx
theorem RRow.drop {w : World} {b off : Nat} {xs : List α} (h : RRow n cv w (some ⟨b, off, none⟩) xs) (k : Nat) : RRow n cv w (some ⟨b, off + k * n, none⟩) (xs.drop k) := by
  rcases h with h | ⟨b', off', ha, hc⟩
  · exact Or.inl (by rw [h]; simp)
  · cases ha
    refine Or.inr ⟨b, off + k * n, rfl, fun i x hx j v hv => ?_⟩
    rw [List.getElem?_drop] at hx
    have := hc (k + i) x hx j v hv
    rw [Nat.add_mul, ← Nat.add_assoc] at this
    exact this
theorem RRow.dropO {w : World} {a : Option Addr} {xs : List α} (h : RRow n cv w a xs) (k : Nat) : RRow n cv w (a.map (fun x => x.add (k * n))) (xs.drop k) := by
  have h0 := h
  rcases h with h | ⟨b, off, ha, hc⟩
  · exact Or.inl (by rw [h]; simp)
  · subst ha
    have := RRow.drop h0 k
    rw [Option.map_some, add_none]
    exact this
/-- The address of a row that is none of none. -/
theorem RRow.at {w : World} {a : Option Addr} {xs : List α} {k : Nat} {x : α} (h : RRow n cv w a xs) (hx : xs[k]? = some x) :
    ∃ b off, a = some ⟨b, off, none⟩ ∧ ∀ (j : Nat) (v : Value), (cv x)[j]? = some v → w.cell? ⟨b, off + k * n + j, none⟩ = some v := by
  rcases h with h | ⟨b, off, ha, hc⟩
  · rw [h] at hx; simp at hx
  · exact ⟨b, off, ha, hc k x hx⟩

/-- A row of records that the call itself made. -/
def OwnR (n : Nat) (cv : α → List Value) (w : World) (base : Nat) (e : TypeId) (v : Value) (xs : List α) : Prop := w.ownsRow base e n v xs.length (xs.flatMap cv)
theorem OwnR.nil (w : World) (base : Nat) (e : TypeId) : OwnR n cv w base e (.slice none 0 0) [] := World.ownsRow_nil w base e n
theorem OwnR.alloc {w : World} {base : Nat} {e : TypeId} {v : Value} {xs : List α} (h : OwnR n cv w base e v xs) (o : Obj) : OwnR n cv (w.alloc o) base e v xs := World.ownsRow.alloc h o
theorem OwnR.block {w : World} {base : Nat} {e : TypeId} {v : Value} {xs : List α} (h : OwnR n cv w base e v xs) : ∀ k, v.ownBlock = some k → base ≤ k := fun k hk => (World.ownsRow.lt h k hk).1
theorem OwnR.below {w w' : World} {base : Nat} {e : TypeId} {v : Value} {xs : List α} (h : OwnR n cv w base e v xs) (hb : Below w.heap.size w w') : OwnR n cv w' base e v xs := by
  refine ⟨h.1, ?_⟩
  rcases h.2 with h2 | ⟨g, cap, cur, h1, h2, h3, h4⟩
  · exact Or.inl h2
  · exact Or.inr ⟨g, cap, cur, h1, h2, blk_below h3 hb, h4⟩
theorem flat_at (hl : ∀ x, (cv x).length = n) : ∀ (xs : List α) (k : Nat) (x : α), xs[k]? = some x → ∀ (j : Nat), j < n → (xs.flatMap cv)[k * n + j]? = (cv x)[j]?
  | [], k, x, hx, j, hj => by simp at hx
  | y :: r, 0, x, hx, j, hj => by
    simp at hx
    subst hx
    rw [List.flatMap_cons, Nat.zero_mul, Nat.zero_add, List.getElem?_append_left (by rw [hl]; exact hj)]
  | y :: r, k + 1, x, hx, j, hj => by
    rw [List.flatMap_cons, List.getElem?_append_right (by rw [hl, Nat.succ_mul]; omega), hl, show (k + 1) * n + j - n = k * n + j by rw [Nat.succ_mul]; omega]
    exact flat_at hl r k x (by simpa using hx) j hj
theorem OwnR.row {w : World} {base : Nat} {e : TypeId} {v : Value} {xs : List α} (hl : ∀ x, (cv x).length = n) (h : OwnR n cv w base e v xs) : ∃ a cap, v = .slice a xs.length cap ∧ (a = none → cap = 0) ∧ RRow n cv w a xs := by
  have h0 := h
  obtain ⟨_, h2⟩ := h
  rcases h2 with ⟨hv, hn⟩ | ⟨g, cap, cur, hv, _, _, _, _, _, _⟩
  · exact ⟨none, 0, by rw [hv, hn], fun _ => rfl, Or.inl (List.length_eq_zero_iff.1 hn)⟩
  · refine ⟨some ⟨g, 0, none⟩, cap, hv, fun hno => (by cases hno), Or.inr ⟨g, 0, rfl, fun k x hx j u hu => ?_⟩⟩
    have hj : j < n := by have := (List.getElem?_eq_some_iff.1 hu).1; rw [hl] at this; exact this
    have hc := World.ownsRow.cells (g := g) h0 (by rw [hv]; rfl) (k * n + j) u (by rw [flat_at hl xs k x hx j hj]; exact hu)
    rw [add_none] at hc
    rw [Nat.zero_add] at hc ⊢
    exact hc

/-- 'x = append(x, y)' where x is a row of records of the call's own: a law for the walk. -/
theorem wpList_appR {P : Program} {w : World} {ops : Array Oper} {rest : List Oper} {o : Oper} {a : Act} {Q : Exit → Act → World → Prop} (hgd : o.guard = none) (s x : Operand) (t : TypeId)
    (ho : o.op = .call { callee := .builtin .append, args := #[s, x], argTypes := #[t, t] })
    (base : Nat) (e : TypeId) (z : Value) (bytes : Nat) (hinfo : (P.info? e).map (fun i => (i.zero, i.size, i.bytes)) = some (some z, n, bytes)) (hz : z.cells.size = n) (hn : 0 < n) (hby : bytes ≤ 1000000) (ht : P.underlying t = some (.slice e))
    (hl : ∀ x, (cv x).length = n) (h1 : ∀ x, ∀ u ∈ cv x, u.oneCell' = true)
    (v : Value) (xs : List α) (hs : a.eval s = v) (hown : OwnR n cv w base e v xs)
    (b : Nat) (y : α) (hx : a.eval x = .slice (some ⟨b, 0, none⟩) 1 1) (hcell : ∀ (j : Nat) (u : Value), (cv y)[j]? = some u → w.cell? ⟨b, j, none⟩ = some u)
    (hb : xs.length ≤ 1000000) (hbase : base ≤ w.heap.size)
    (h : ∀ v' w', OwnR n cv w' base e v' (xs ++ [y]) → w.grownBy w' v.ownBlock → wpList P ops Q rest (a.put o.dst v') w') : wpList P ops Q (o :: rest) a w := by
  obtain ⟨i, hi, hz0, hz1, hz2⟩ := info_parts hinfo
  have hbb : (xs.length + 1) * bytes ≤ 140737488355328 := Nat.le_trans (Nat.mul_le_mul (Nat.succ_le_succ hb) hby) (by omega)
  refine wpList_append_own w hgd s x t ho base e i z n bytes ht hi hz0 hz1 hz2 hz hn v xs.length _ hs hown ⟨b, 0, none⟩ 1 1 (cv y) hx (by rw [hl, Nat.one_mul]) ?_ (h1 y) (by unfold maxLen; omega) hbb hbase ?_
  · intro j u hj
    rw [add_none, Nat.zero_add]
    exact hcell j u hj
  · intro v' w' h2 h3 _
    refine h v' w' ?_ h3
    unfold OwnR
    rw [List.length_append, List.flatMap_append, List.flatMap_singleton]
    exact h2
theorem flat_len (hl : ∀ x, (cv x).length = n) : ∀ xs : List α, (xs.flatMap cv).length = xs.length * n
  | [] => by simp
  | x :: r => by rw [List.flatMap_cons, List.length_append, hl, flat_len hl r, List.length_cons, Nat.succ_mul]; omega
/-- 'x = append(x, ys...)' where x is a row of records of the call's own and ys can be read: a law for the walk. -/
theorem wpList_appRs {P : Program} {w : World} {ops : Array Oper} {rest : List Oper} {o : Oper} {a : Act} {Q : Exit → Act → World → Prop} (hgd : o.guard = none) (s x : Operand) (t : TypeId)
    (ho : o.op = .call { callee := .builtin .append, args := #[s, x], argTypes := #[t, t] })
    (base : Nat) (e : TypeId) (z : Value) (bytes : Nat) (hinfo : (P.info? e).map (fun i => (i.zero, i.size, i.bytes)) = some (some z, n, bytes)) (hz : z.cells.size = n) (hn : 0 < n) (hby : bytes ≤ 1000000) (ht : P.underlying t = some (.slice e))
    (hl : ∀ x, (cv x).length = n) (v : Value) (xs : List α) (hs : a.eval s = v) (hown : OwnR n cv w base e v xs)
    (ad : Option Addr) (m c : Nat) (ys : List α) (hx : a.eval x = .slice ad m c) (hm : m = ys.length) (hc : ad = none → c = 0) (hrow : RRow n cv w ad ys) (h1 : ∀ y ∈ ys, ∀ u ∈ cv y, u.oneCell' = true)
    (hb : xs.length + ys.length ≤ 1000000) (hbase : base ≤ w.heap.size)
    (h : ∀ v' w', OwnR n cv w' base e v' (xs ++ ys) → w.grownBy w' v.ownBlock → wpList P ops Q rest (a.put o.dst v') w') : wpList P ops Q (o :: rest) a w := by
  obtain ⟨i, hi, hz0, hz1, hz2⟩ := info_parts hinfo
  subst hm
  cases ad with
  | none =>
    have hy : ys = [] := by
      rcases hrow with h | ⟨b, off, h, _⟩
      · exact h
      · cases h
    subst hy
    rw [hc rfl] at hx
    exact wpList_append_own_none hgd s x t ho base e i n ht hi v xs.length _ hs hown hx (h v w (by simpa using hown) ⟨rfl, rfl, rfl, Nat.le_refl _, fun _ _ _ => rfl⟩)
  | some ad =>
    have hbb : (xs.length + ys.length) * bytes ≤ 140737488355328 := Nat.le_trans (Nat.mul_le_mul hb hby) (by omega)
    refine wpList_append_own w hgd s x t ho base e i z n bytes ht hi hz0 hz1 hz2 hz hn v xs.length _ hs hown ad ys.length c (ys.flatMap cv) hx (flat_len hl ys) ?_ ?_ (by unfold maxLen; omega) hbb hbase ?_
    · intro j u hj
      rcases hrow with h | ⟨b, off, h, hcell⟩
      · subst h; simp at hj
      · cases h
        have hlt : j < ys.length * n := by have := (List.getElem?_eq_some_iff.1 hj).1; rw [flat_len hl] at this; exact this
        have hk : j / n < ys.length := Nat.div_lt_of_lt_mul (by rw [Nat.mul_comm]; exact hlt)
        have hyk := List.getElem?_eq_getElem hk
        have e1 : j / n * n + j % n = j := by rw [Nat.mul_comm]; exact Nat.div_add_mod j n
        have e2 := flat_at hl ys (j / n) _ hyk (j % n) (Nat.mod_lt _ hn)
        rw [e1, hj] at e2
        have := hcell (j / n) _ hyk (j % n) u e2.symm
        rw [Nat.add_assoc, e1] at this
        rw [add_none]
        exact this
    · intro u hu
      obtain ⟨y, hy, hu2⟩ := List.mem_flatMap.1 hu
      exact h1 y hy u hu2
    · intro v' w' h2 h3 _
      refine h v' w' ?_ h3
      unfold OwnR
      rw [List.length_append, List.flatMap_append]
      exact h2
end

/-- How a slice of records among the arguments reads, opened, where each record's cells are known of its own reading. -/
theorem open_recsQ {α : Type} {Q : α → Prop} {n : Nat} {cv : α → List Value} {H : Type} {enc : TypeId × Value → H} {P : Program} {W : World} {b0 : Nat} {sp : Nat → Bool} {hd : Bool} {t e : TypeId} {a : Option Addr} {len cap : Nat} {d : DataW H} {ps : List MemPlace}
    (hu : P.underlying t = some (.slice e)) (hce : P.cellsOf e = n) (hn : 0 < n) (hel : ∀ (fuel : Nat) (cs : List Value) (x : DataW H × List MemPlace), DataW.trod enc P W b0 sp hd fuel e cs = some x → ∃ r : α, cs = cv r ∧ Q r)
    (h : DataW.Trod enc P W b0 sp hd t (.slice a len cap) d ps) :
    ∃ xs : List α, len = xs.length ∧ len ≤ maxLen ∧ len ≤ cap ∧ cap ≤ maxLen ∧ (a = none → cap = 0) ∧ (∀ ad, a = some ad → 0 < len → ad.spot = none) ∧ RRow n cv W a xs ∧ ∀ r ∈ xs, Q r := by
  obtain ⟨fuel, hf⟩ := h
  rcases DataW.trod_slice hu hf with ⟨hcs, _⟩ | ⟨x, l, c, elems, rest, m, _, hcs, _, hb, hlc, hm, hlen, hat, _, _⟩
  · simp [Value.cells] at hcs
    obtain ⟨rfl, rfl, rfl⟩ := hcs
    exact ⟨[], rfl, by unfold maxLen; omega, Nat.le_refl _, by unfold maxLen; omega, fun _ => rfl, fun ad h => (by cases h), Or.inl rfl, fun r h => by simp at h⟩
  · simp [Value.cells] at hcs
    obtain ⟨rfl, rfl, rfl⟩ := hcs
    rw [hce] at hat
    have hex : ∀ i, i < len → ∃ r : α, W.cells? b0 (x.add (i * n)) n = some (cv r) ∧ Q r := by
      intro i hi
      have h1 := hat i hi
      rw [List.getElem?_eq_getElem (by omega), Option.bind_eq_some_iff] at h1
      obtain ⟨cs, h2, h3⟩ := h1
      obtain ⟨r, rfl, hq⟩ := hel _ _ _ h3
      exact ⟨r, h2, hq⟩
    have hls : ∀ k, k ≤ len → ∃ xs : List α, xs.length = k ∧ ∀ (i : Nat) (r : α), xs[i]? = some r → W.cells? b0 (x.add (i * n)) n = some (cv r) ∧ Q r := by
      intro k
      induction k with
      | zero => exact fun _ => ⟨[], rfl, fun i r h => by simp at h⟩
      | succ k ih =>
        intro hk
        obtain ⟨xs, h1, h2⟩ := ih (by omega)
        obtain ⟨r, hr⟩ := hex k (by omega)
        refine ⟨xs ++ [r], by simp [h1], fun i q hq => ?_⟩
        by_cases hi : i < xs.length
        · rw [List.getElem?_append_left hi] at hq; exact h2 i q hq
        · rw [List.getElem?_append_right (by omega)] at hq
          by_cases he : i - xs.length = 0
          · rw [he] at hq
            simp at hq
            subst hq
            rw [show i = k by omega]
            exact hr
          · rw [List.getElem?_eq_none (by simp; omega)] at hq
            cases hq
    obtain ⟨xs, hx1, hx2⟩ := hls len (Nat.le_refl _)
    have hspot : 0 < len → x.spot = none := by
      intro h0
      obtain ⟨r, hr, _⟩ := hex 0 h0
      have hc := World.cells?_some hr
      have h1 := hc.2.2 0 hn
      have hlt : 0 < (cv r).length := by have := hc.2.1; omega
      rw [List.getElem?_eq_getElem hlt] at h1
      have h2 := World.cell?_spot h1
      obtain ⟨bb, oo, ss⟩ := x
      cases ss with
      | none => rfl
      | some q => simp [Addr.add] at h2
    refine ⟨xs, hx1.symm, by omega, hlc, hm, fun hno => (by cases hno), fun ad had h0 => (by cases had; exact hspot h0), ?_, fun r hr => (by obtain ⟨i, hi⟩ := List.getElem?_of_mem hr; exact (hx2 i r hi).2)⟩
    by_cases h0 : len = 0
    · exact Or.inl (List.length_eq_zero_iff.1 (by omega))
    · obtain ⟨b, off, spot⟩ := x
      have hs : spot = none := hspot (by omega)
      subst hs
      refine Or.inr ⟨b, off, rfl, fun k r hr j v hv => ?_⟩
      have hc := World.cells?_some (hx2 k r hr).1
      have hj : j < n := by have := (List.getElem?_eq_some_iff.1 hv).1; have := hc.2.1; omega
      have h1 := hc.2.2 j hj
      rw [add_none, add_none, hv] at h1
      exact h1
theorem open_recs {α : Type} {n : Nat} {cv : α → List Value} {H : Type} {enc : TypeId × Value → H} {P : Program} {W : World} {b0 : Nat} {sp : Nat → Bool} {hd : Bool} {t e : TypeId} {a : Option Addr} {len cap : Nat} {d : DataW H} {ps : List MemPlace}
    (hu : P.underlying t = some (.slice e)) (hce : P.cellsOf e = n) (hn : 0 < n) (hel : ∀ (fuel : Nat) (cs : List Value) (x : DataW H × List MemPlace), DataW.trod enc P W b0 sp hd fuel e cs = some x → ∃ r : α, cs = cv r)
    (h : DataW.Trod enc P W b0 sp hd t (.slice a len cap) d ps) :
    ∃ xs : List α, len = xs.length ∧ len ≤ maxLen ∧ len ≤ cap ∧ cap ≤ maxLen ∧ (a = none → cap = 0) ∧ (∀ ad, a = some ad → 0 < len → ad.spot = none) ∧ RRow n cv W a xs := by
  obtain ⟨xs, h1, h2, h3, h4, h5, h6, h7, _⟩ := open_recsQ (Q := fun _ => True) hu hce hn (fun f cs x hx => by obtain ⟨r, hr⟩ := hel f cs x hx; exact ⟨r, hr, trivial⟩) h
  exact ⟨xs, h1, h2, h3, h4, h5, h6, h7⟩
end Go.Proofs.YtojdaifnljghkabGreatDoor.M
namespace Go.Proofs.YtojdaifnljghkabGreatDoor.M

/-- A cert: its key, and its seal's point and answer; its cells. -/
def certV (c : Int × Int × Int) : List Value := [.int .i64 c.1, .int .i64 c.2.1, .int .i64 c.2.2]
theorem certV_len (c : Int × Int × Int) : (certV c).length = 3 := rfl
theorem certV_one (c : Int × Int × Int) : ∀ u ∈ certV c, u.oneCell' = true := by
  intro u hu
  simp [certV] at hu
  rcases hu with rfl | rfl | rfl <;> rfl
/-- The last key, and the fault, of certs behind a key that is one. -/
def lastF : Int → List (Int × Int × Int) → Int × Int
  | root, [] => (root, 0)
  | root, c :: r => if inB c.1 = true then (if rigC root c.1 c.2.1 c.2.2 = 0 then lastF c.1 r else (0, rigC root c.1 c.2.1 c.2.2)) else (0, 1)
theorem lastF_nil (root : Int) : lastF root [] = (root, 0) := rfl
theorem lastF_in {root : Int} {c : Int × Int × Int} {r : List (Int × Int × Int)} (h : inB c.1 = false) : lastF root (c :: r) = (0, 1) := by rw [lastF, h]; rfl
theorem lastF_ok {root : Int} {c : Int × Int × Int} {r : List (Int × Int × Int)} (h : inB c.1 = true) (h2 : rigC root c.1 c.2.1 c.2.2 = 0) : lastF root (c :: r) = lastF c.1 r := by rw [lastF, if_pos h, if_pos h2]
theorem lastF_bad {root : Int} {c : Int × Int × Int} {r : List (Int × Int × Int)} (h : inB c.1 = true) (h2 : ¬ rigC root c.1 c.2.1 c.2.2 = 0) : lastF root (c :: r) = (0, rigC root c.1 c.2.1 c.2.2) := by rw [lastF, if_pos h, if_neg h2]
def lastO (root : Int) (l : List (Int × Int × Int)) : Int × Int := if 12 < l.length then (0, 4) else if inB root = true then lastF root l else (0, 1)
def lastV (root : Int) (l : List (Int × Int × Int)) : Int := (lastO root l).1
def lastC (root : Int) (l : List (Int × Int × Int)) : Int := (lastO root l).2
theorem lastO_full {root : Int} {l : List (Int × Int × Int)} (h : 12 < l.length) : lastV root l = 0 ∧ lastC root l = 4 := by unfold lastV lastC lastO; rw [if_pos h]; exact ⟨rfl, rfl⟩
theorem lastO_root {root : Int} {l : List (Int × Int × Int)} (h : ¬ 12 < l.length) (hr : inB root = false) : lastV root l = 0 ∧ lastC root l = 1 := by unfold lastV lastC lastO; rw [if_neg h, hr]; exact ⟨rfl, rfl⟩
theorem lastO_go {root : Int} {l : List (Int × Int × Int)} (h : ¬ 12 < l.length) (hr : inB root = true) : lastV root l = (lastF root l).1 ∧ lastC root l = (lastF root l).2 := by unfold lastV lastC lastO; rw [if_neg h, if_pos hr]; exact ⟨rfl, rfl⟩
theorem lastC_zero {root : Int} {l : List (Int × Int × Int)} (h : lastC root l = 0) : ¬ 12 < l.length ∧ inB root = true ∧ lastF root l = (lastV root l, 0) := by
  by_cases h1 : 12 < l.length
  · rw [(lastO_full h1).2] at h; cases h
  · cases hr : inB root with
    | false => rw [(lastO_root h1 hr).2] at h; cases h
    | true =>
      obtain ⟨e1, e2⟩ := lastO_go (l := l) h1 hr
      exact ⟨h1, rfl, by rw [e1, ← h, e2]⟩
theorem lastV_nil (root : Int) : lastV root [] = (if inB root = true then root else 0) ∧ lastC root [] = (if inB root = true then 0 else 1) := by
  unfold lastV lastC lastO
  rw [if_neg (by simp)]
  cases h : inB root <;> simp [lastF]
/-- What is right goes on from its first part. -/
theorem lastF_split : ∀ (l r : List (Int × Int × Int)) (root n : Int), inB root = true → lastF root (l ++ r) = (n, 0) → ∃ m, inB m = true ∧ lastF root l = (m, 0) ∧ lastF m r = (n, 0)
  | [], r, root, n, hr, h => ⟨root, hr, rfl, h⟩
  | c :: l, r, root, n, hr, h => by
    cases hc : inB c.1 with
    | false =>
      rw [List.cons_append, lastF_in hc] at h
      cases h
    | true =>
      by_cases h2 : rigC root c.1 c.2.1 c.2.2 = 0
      · rw [List.cons_append, lastF_ok hc h2] at h
        obtain ⟨m, h3, h4, h5⟩ := lastF_split l r c.1 n hc h
        exact ⟨m, h3, by rw [lastF_ok hc h2, h4], h5⟩
      · rw [List.cons_append, lastF_bad hc h2] at h
        exact absurd (congrArg Prod.snd h) h2
theorem last_split {root : Int} {l : List (Int × Int × Int)} (k : Nat) (h : lastC root l = 0) :
    lastC root (l.take k) = 0 ∧ lastC (lastV root (l.take k)) (l.drop k) = 0 ∧ lastV (lastV root (l.take k)) (l.drop k) = lastV root l := by
  obtain ⟨h1, h2, h3⟩ := lastC_zero h
  rw [← List.take_append_drop k l] at h3
  obtain ⟨m, h4, h5, h6⟩ := lastF_split _ _ _ _ h2 h3
  rw [List.take_append_drop] at h6
  have e1 := lastO_go (root := root) (l := l.take k) (by simp; omega) h2
  have e2 := lastO_go (root := m) (l := l.drop k) (by simp; omega) h4
  rw [h5] at e1
  rw [h6] at e2
  rw [e1.1]
  exact ⟨e1.2, e2.2, e2.1⟩
/-- A cert that was made: what is wrong, and the cert. -/
def mkC (x k q : Int) : Int := if inB q = true then sigC x k q else 1
def mkV (x k q : Int) : Int × Int × Int := if mkC x k q = 0 then (q, sigP x k q, sigA x k q) else (0, 0, 0)
theorem mkC_ok {x k q : Int} (h : inB q = true) : mkC x k q = sigC x k q := if_pos h
theorem mkC_no {x k q : Int} (h : inB q = false) : mkC x k q = 1 := by unfold mkC; rw [h]; rfl
theorem mkV_ok {x k q : Int} (h : mkC x k q = 0) : mkV x k q = (q, sigP x k q, sigA x k q) := if_pos h
theorem mkV_no {x k q : Int} (h : ¬ mkC x k q = 0) : mkV x k q = (0, 0, 0) := if_neg h
theorem mk_own {x k y : Int} (hx : secB x = true) (hk : secB k = true) : mkC x k (pwZ 64 y) = 0 := by
  rw [mkC_ok (pwZ_in y), sigC_ok hx hk (inB_isM (pwZ_in y))]
theorem mk_not {x k y : Int} (hx : secB x = true) (h : ¬ mkC x k (pwZ 64 y) = 0) : k < 1 ∨ 256 < k := by
  cases hk : secB k with
  | true => exact absurd (mk_own hx hk) h
  | false => have := secB_not.1 hk; omega
/-- It is right by the key of who made it. -/
theorem rig_own {x k m : Int} (hx : secB x = true) (hk : secB k = true) (hm : isM m = true) : rigC (pwZ 64 x) m (sigP x k m) (sigA x k m) = 0 := by
  rw [sigP_ok hx hk hm]
  refine rigC_yes (formB_iff.2 ⟨pwZ_in x, pwZ_in k, hm, sigA_ans⟩) ?_
  rw [says_own hx hk hm sigA_ans]
  exact decide_eq_true rfl
/-- Certs that each one makes for the next. -/
def chainC (k : Int) : List Int → List (Int × Int × Int)
  | [] => []
  | [_] => []
  | s :: t :: r => mkV s k (pwZ 64 t) :: chainC k (t :: r)
theorem chain_snoc (k : Int) : ∀ (l : List Int) (s t : Int), chainC k (l ++ [s, t]) = chainC k (l ++ [s]) ++ [mkV s k (pwZ 64 t)]
  | [], s, t => rfl
  | [a], s, t => rfl
  | a :: b :: l, s, t => by
    have h := chain_snoc k (b :: l) s t
    simp only [List.cons_append, chainC] at h ⊢
    rw [h]
theorem chain_len (k : Int) : ∀ (l : List Int), (chainC k l).length = l.length - 1
  | [] => rfl
  | [_] => rfl
  | s :: t :: r => by
    have h := chain_len k (t :: r)
    simp only [chainC, List.length_cons] at h ⊢
    omega
theorem chain_last {k : Int} (hk : secB k = true) : ∀ (l : List Int) (s : Int), (∀ x ∈ s :: l, secB x = true) → lastF (pwZ 64 s) (chainC k (s :: l)) = (pwZ 64 ((s :: l).getLastD 0), 0)
  | [], s, h => rfl
  | t :: r, s, h => by
    have hs := h s (by simp)
    have ht : ∀ x ∈ t :: r, secB x = true := fun x hx => h x (List.mem_cons_of_mem _ hx)
    have hm := inB_isM (pwZ_in t)
    have e := mkV_ok (mk_own (y := t) hs hk)
    have h2 := chain_last hk r t ht
    rw [chainC, e, lastF_ok (c := (pwZ 64 t, sigP s k (pwZ 64 t), sigA s k (pwZ 64 t))) (pwZ_in t) (rig_own hs hk hm)]
    simpa using h2
end Go.Proofs.YtojdaifnljghkabGreatDoor.M
namespace Go.Proofs.YtojdaifnljghkabGreatDoor.M

theorem mea_is (nm : ByteArray) (v : Int) (cd : ByteArray) : isM (meaV nm v cd) = true := by
  rw [isM_iff]
  unfold meaV
  split
  · exact ofFrom_range 1 _ (by omega) (by omega)
  · omega
/-- A signed image that is made: what is wrong, and its seal. -/
def sgnE (x k : Int) (nm : ByteArray) (v : Int) (cd : ByteArray) : Int := if imgE nm v cd = 0 then sigC x k (meaV nm v cd) else imgE nm v cd
/-- A signed image that is checked: what is wrong. -/
def sldE (q : Int) (nm : ByteArray) (v : Int) (cd : ByteArray) (p a : Int) : Int := if imgE nm v cd = 0 then rigC q (meaV nm v cd) p a else imgE nm v cd
section
variable {x k q p a v : Int} {nm cd : ByteArray}
theorem sgnE_img (h : ¬ imgE nm v cd = 0) : sgnE x k nm v cd = imgE nm v cd := if_neg h
theorem sgnE_ok (h : imgE nm v cd = 0) : sgnE x k nm v cd = sigC x k (meaV nm v cd) := if_pos h
theorem sgnE_zero (h : sgnE x k nm v cd = 0) : imgE nm v cd = 0 ∧ sigC x k (meaV nm v cd) = 0 := by
  by_cases hE : imgE nm v cd = 0
  · exact ⟨hE, (sgnE_ok hE).symm.trans h⟩
  · exact absurd ((sgnE_img hE).symm.trans h) hE
theorem sldE_img (h : ¬ imgE nm v cd = 0) : sldE q nm v cd p a = imgE nm v cd := if_neg h
theorem sldE_ok (h : imgE nm v cd = 0) : sldE q nm v cd p a = rigC q (meaV nm v cd) p a := if_pos h
theorem sigC_meas {m m' : Int} (h : isM m = true) (h' : isM m' = true) : sigC x k m = sigC x k m' := by
  unfold sigC
  rw [h, h']
/-- What is signed is right by its key; with another answer it is not. -/
theorem sld_own (h : sgnE x k nm v cd = 0) : sldE (pwZ 64 x) nm v cd (sigP x k (meaV nm v cd)) (sigA x k (meaV nm v cd)) = 0 := by
  obtain ⟨h1, h2⟩ := sgnE_zero h
  obtain ⟨hx, hk, hm⟩ := sigC_zero h2
  rw [sldE_ok h1, rig_own hx hk hm]
theorem sld_range {other : Int} (h : sgnE x k nm v cd = 0) (ho : ansB other = false) : sldE (pwZ 64 x) nm v cd (sigP x k (meaV nm v cd)) other = 1 := by
  obtain ⟨h1, h2⟩ := sgnE_zero h
  rw [sldE_ok h1, rigC_no (form_no (Or.inr (Or.inr (Or.inr ho))))]
theorem sld_other {other : Int} (h : sgnE x k nm v cd = 0) (ho : ansB other = true) (hne : ¬ other = sigA x k (meaV nm v cd)) : sldE (pwZ 64 x) nm v cd (sigP x k (meaV nm v cd)) other = 8 := by
  obtain ⟨h1, h2⟩ := sgnE_zero h
  obtain ⟨hx, hk, hm⟩ := sigC_zero h2
  rw [sldE_ok h1, sigP_ok hx hk hm]
  exact rigC_else (formB_iff.2 ⟨pwZ_in x, pwZ_in k, hm, ho⟩) (by rw [says_own hx hk hm ho]; exact decide_eq_false hne)
/-- An image that nobody signed is not right. -/
theorem sld_none : ¬ sldE q nm v cd 0 0 = 0 := by
  intro h
  by_cases hE : imgE nm v cd = 0
  · rw [sldE_ok hE, rigC_no (form_no (Or.inr (Or.inl rfl)))] at h
    cases h
  · exact hE ((sldE_img hE).symm.trans h)
end
end Go.Proofs.YtojdaifnljghkabGreatDoor.M
namespace Go.Proofs.YtojdaifnljghkabGreatDoor.M
/-- The cells of a signed image. -/
def sgnC (nm : ByteArray) (v : Int) (cd : ByteArray) (p a : Int) : Array Value := #[.string nm, .int .i64 v, .string cd, .int .i64 p, .int .i64 a]
theorem cells5 {w : World} {b : Nat} {x0 x1 x2 x3 x4 : Value} {t : TypeId} {fr : Nat × Nat} (h : w.heap[b]? = some (.cells #[x0, x1, x2, x3, x4] t fr)) :
    w.cell? ⟨b, 0, none⟩ = some x0 ∧ w.cell? ⟨b, 1, none⟩ = some x1 ∧ w.cell? ⟨b, 2, none⟩ = some x2 ∧ w.cell? ⟨b, 3, none⟩ = some x3 ∧ w.cell? ⟨b, 4, none⟩ = some x4 := by
  refine ⟨?_, ?_, ?_, ?_, ?_⟩ <;> rw [cell_of_row w b _ _ t fr h] <;> rfl
theorem free5 {w : World} {b : Nat} {c : Array Value} {t : TypeId} (h : w.heap[b]? = some (.cells c t)) :
    w.frozen? ⟨b, 0, none⟩ = false ∧ w.frozen? ⟨b, 1, none⟩ = false ∧ w.frozen? ⟨b, 2, none⟩ = false ∧ w.frozen? ⟨b, 3, none⟩ = false ∧ w.frozen? ⟨b, 4, none⟩ = false :=
  ⟨frozen_of_row w b 0 _ _ h, frozen_of_row w b 1 _ _ h, frozen_of_row w b 2 _ _ h, frozen_of_row w b 3 _ _ h, frozen_of_row w b 4 _ _ h⟩
theorem set5 {w : World} {b : Nat} {a0 a1 a2 a3 a4 x0 x1 x2 x3 x4 : Value} {t : TypeId} {fr : Nat × Nat} (hg : w.heap[b]? = some (.cells #[a0, a1, a2, a3, a4] t fr)) :
    ((((w.setCell ⟨b, 0, none⟩ x0).setCell ⟨b, 1, none⟩ x1).setCell ⟨b, 2, none⟩ x2).setCell ⟨b, 3, none⟩ x3).setCell ⟨b, 4, none⟩ x4 = w.setRow b #[x0, x1, x2, x3, x4] := by
  rw [setCell_eq_setRow w b 0 _ _ _ x0 hg]
  have h1 := setRow_heap w b _ (#[a0, a1, a2, a3, a4].setIfInBounds 0 x0) t fr hg
  rw [setCell_eq_setRow _ b 1 _ _ _ x1 h1, setRow_setRow]
  have h2 := setRow_heap w b _ ((#[a0, a1, a2, a3, a4].setIfInBounds 0 x0).setIfInBounds 1 x1) t fr hg
  rw [setCell_eq_setRow _ b 2 _ _ _ x2 h2, setRow_setRow]
  have h3 := setRow_heap w b _ (((#[a0, a1, a2, a3, a4].setIfInBounds 0 x0).setIfInBounds 1 x1).setIfInBounds 2 x2) t fr hg
  rw [setCell_eq_setRow _ b 3 _ _ _ x3 h3, setRow_setRow]
  have h4 := setRow_heap w b _ ((((#[a0, a1, a2, a3, a4].setIfInBounds 0 x0).setIfInBounds 1 x1).setIfInBounds 2 x2).setIfInBounds 3 x3) t fr hg
  rw [setCell_eq_setRow _ b 4 _ _ _ x4 h4, setRow_setRow]
  rfl
/-- A signed image that was made, in its cells. -/
def mkS (x k : Int) (nm : ByteArray) (v : Int) (cd : ByteArray) : Array Value :=
  if sgnE x k nm v cd = 0 then sgnC nm v cd (sigP x k (meaV nm v cd)) (sigA x k (meaV nm v cd)) else sgnC { data := #[] } 0 { data := #[] } 0 0
theorem mkS_ok {x k v : Int} {nm cd : ByteArray} (h : sgnE x k nm v cd = 0) : mkS x k nm v cd = sgnC nm v cd (sigP x k (meaV nm v cd)) (sigA x k (meaV nm v cd)) := if_pos h
theorem mkS_no {x k v : Int} {nm cd : ByteArray} (h : ¬ sgnE x k nm v cd = 0) : mkS x k nm v cd = sgnC { data := #[] } 0 { data := #[] } 0 0 := if_neg h
end Go.Proofs.YtojdaifnljghkabGreatDoor.M
namespace Go.Proofs.YtojdaifnljghkabGreatDoor.Sign
open Go.ChangeShapes Go.WideShapes Go.ChangeAt Go.RowKit
open Go.Proofs.YtojdaifnljghkabGreatDoor.M Go.Proofs.YtojdaifnljghkabGreatDoor.Key Go.Proofs.YtojdaifnljghkabGreatDoor.Image
set_option linter.unusedVariables false

theorem info_signed : (Tryz.prog.info? 27).map (·.size) = some 5 := by kernel_rfl
theorem load_signed {w : World} {b : Nat} {c : Array Value} {fr : Nat × Nat} (h : w.heap[b]? = some (.cells c 27 fr)) (hs : c.size = 5) : (loadVar 27 ⟨b, 0, none⟩).run Tryz.prog w = .ok (.agg c) w :=
  run_loadVar_row w b _ _ c fr _ h Tryz.underlying27 rfl (by rw [info_signed, hs])
theorem results_signed {fn : Func} {p u : Tmp} (h : fn.results = #[.cell p 27, .tmp u]) (tmps : Array Value) (w : World) (b : Nat) (c : Array Value) (v : Value) (hp : tmps.getD p undef = .pointer (some ⟨b, 0, none⟩)) (hu : tmps.getD u undef = v)
    (hg : w.heap[b]? = some (.cells c 27)) (hs : c.size = 5) : (results fn tmps).run Tryz.prog w = .ok (.tuple #[.agg c, v]) w := by
  rw [results_cell_tmp h, hp, hu]
  simp [asAddr, load_signed hg hs, Result.andThen]

set_option maxHeartbeats 4000000 in
theorem check_any (q v p a : Int) (nm cd : ByteArray) (w : World) (hn : nm.size ≤ 140737488351232) (hc : cd.size ≤ 140737488351232) (hh : Has w) :
    Calls Tryz.prog 76 #[.int .i64 q, .agg (sgnC nm v cd p a)] w fun e w' => e = .returned (errV 96 (sldE q nm v cd p a)) ∧ Below w.heap.size w w' := by
  have HB := hide (below_new w (.cells (sgnC nm v cd p a) 27))
  have HG := hide (blk_new w (.cells (sgnC nm v cd p a) 27))
  have ME := hide (fun (W : World) (h : Has W) => measure_any nm cd v W hn hc h)
  have HH := hide (hh.below HB.out)
  clear hh
  unfold sgnC at HB HG HH ⊢
  unfold imgC at ME
  go_enter Tryz.func76, Tryz.ntmps76
  go_wp2_with (fail)
  refine (ME.out _ HH.out).mono ?_
  rintro e w1 ⟨rfl, hb1⟩
  have HB1 := hide (below_on HB.out hb1)
  have HG1 := hide (blk_below HG.out hb1)
  clear hb1 HB HG HH ME
  obtain ⟨r0, r1, r2, r3, r4⟩ := cells5 HG1.out
  by_cases hE : imgE nm v cd = 0
  · have HS := hide (sldE_ok (q := q) (p := p) (a := a) hE)
    rw [hE, errV_zero]
    clear hE
    have CK := hide (fun W => hold_any q (meaV nm v cd) p a W)
    unfold sealC at CK
    generalize rigC q (meaV nm v cd) p a = rc at *
    go_wp2_with (fail)
    refine (CK.out _).mono ?_
    rintro e w2 ⟨rfl, hb2⟩
    have HB2 := hide (below_on HB1.out hb2)
    clear hb2 HB1 HG1 CK r0 r1 r2 r3 r4
    go_wp2
    go_ret
    exact ⟨by rw [HS.out]; rfl, HB2.out⟩
  · have HS := hide (sldE_img (q := q) (p := p) (a := a) hE)
    have HX := hide (errV_ne (T := 96) hE)
    rw [errV_ne hE]
    clear hE
    go_wp2
    go_ret
    exact ⟨by rw [HS.out, HX.out]; rfl, HB1.out⟩

/-- Where the image and the seal lie that go into a signed image, where the answer will lie, and that all else is as it was. -/
def InvG (w0 : World) (P Q R : Nat) (nm : ByteArray) (v : Int) (cd : ByteArray) (p a : Int) (W : World) : Prop :=
  Below w0.heap.size w0 W ∧ (w0.heap.size ≤ R ∧ P ≠ R ∧ Q ≠ R) ∧ W.heap[P]? = some (.cells #[.string nm, .int .i64 v, .string cd] 23) ∧ W.heap[Q]? = some (.cells #[.int .i64 p, .int .i64 a] 25) ∧ ∃ x0 x1 x2 x3 x4, W.heap[R]? = some (.cells #[x0, x1, x2, x3, x4] 27)
section
variable {w0 W W' : World} {P Q R : Nat} {nm cd : ByteArray} {v p a : Int}
theorem invG_S (h : InvG w0 P Q R nm v cd p a W) : W.cell? ⟨P, 0, none⟩ = some (.string nm) ∧ W.cell? ⟨P, 1, none⟩ = some (.int .i64 v) ∧ W.cell? ⟨P, 2, none⟩ = some (.string cd) ∧ W.cell? ⟨Q, 0, none⟩ = some (.int .i64 p) ∧ W.cell? ⟨Q, 1, none⟩ = some (.int .i64 a)
    ∧ W.frozen? ⟨R, 0, none⟩ = false ∧ W.frozen? ⟨R, 1, none⟩ = false ∧ W.frozen? ⟨R, 2, none⟩ = false ∧ W.frozen? ⟨R, 3, none⟩ = false ∧ W.frozen? ⟨R, 4, none⟩ = false
    ∧ W.cell? ⟨R, 0, none⟩ = some (cellAt W R 0) ∧ W.cell? ⟨R, 1, none⟩ = some (cellAt W R 1) ∧ W.cell? ⟨R, 2, none⟩ = some (cellAt W R 2) ∧ W.cell? ⟨R, 3, none⟩ = some (cellAt W R 3) ∧ W.cell? ⟨R, 4, none⟩ = some (cellAt W R 4) ∧ InvG w0 P Q R nm v cd p a W := by
  have h' := h
  obtain ⟨h1, h2, h3, h5, x0, x1, x2, x3, x4, h4⟩ := h
  obtain ⟨c0, c1, c2⟩ := img_cells (nm := nm) (v := v) (cd := cd) h3
  obtain ⟨d0, d1⟩ := seal_cells h5
  obtain ⟨f0, f1, f2, f3, f4⟩ := free5 h4
  obtain ⟨e0, e1, e2, e3, e4⟩ := cells5 h4
  exact ⟨c0, c1, c2, d0, d1, f0, f1, f2, f3, f4, cellAt_of e0, cellAt_of e1, cellAt_of e2, cellAt_of e3, cellAt_of e4, h'⟩
theorem invG_drew (h : InvG w0 P Q R nm v cd p a W) : InvG w0 P Q R nm v cd p a W.drew := ⟨Below.drew h.1, h.2⟩
theorem invG_below (h : InvG w0 P Q R nm v cd p a W) (hb : Below W.heap.size W W') : InvG w0 P Q R nm v cd p a W' := by
  obtain ⟨h1, h2, h3, h5, x0, x1, x2, x3, x4, h4⟩ := h
  exact ⟨below_on h1 hb, h2, blk_below h3 hb, blk_below h5 hb, x0, x1, x2, x3, x4, blk_below h4 hb⟩
theorem invG_set (h : InvG w0 P Q R nm v cd p a W) (i : Nat) (u : Value) : InvG w0 P Q R nm v cd p a (W.setCell ⟨R, i, none⟩ u) := by
  obtain ⟨h1, h2, h3, h5, x0, x1, x2, x3, x4, h4⟩ := h
  rw [setCell_eq_setRow W R i _ _ _ u h4]
  refine ⟨below_setRow h1 h2.1 _, h2, by rw [setRow_other _ _ _ _ h2.2.1]; exact h3, by rw [setRow_other _ _ _ _ h2.2.2]; exact h5, ?_⟩
  have h6 := setRow_heap _ _ _ (#[x0, x1, x2, x3, x4].setIfInBounds i u) _ _ h4
  match i with
  | 0 => exact ⟨u, x1, x2, x3, x4, h6⟩
  | 1 => exact ⟨x0, u, x2, x3, x4, h6⟩
  | 2 => exact ⟨x0, x1, u, x3, x4, h6⟩
  | 3 => exact ⟨x0, x1, x2, u, x4, h6⟩
  | 4 => exact ⟨x0, x1, x2, x3, u, h6⟩
  | i + 5 => exact ⟨x0, x1, x2, x3, x4, h6⟩
theorem invG_put (h : InvG w0 P Q R nm v cd p a W) (y0 y1 y2 y3 y4 : Value) :
    (((((W.setCell ⟨R, 0, none⟩ y0).setCell ⟨R, 1, none⟩ y1).setCell ⟨R, 2, none⟩ y2).setCell ⟨R, 3, none⟩ y3).setCell ⟨R, 4, none⟩ y4).heap[R]? = some (.cells #[y0, y1, y2, y3, y4] 27) ∧ Below w0.heap.size w0 (((((W.setCell ⟨R, 0, none⟩ y0).setCell ⟨R, 1, none⟩ y1).setCell ⟨R, 2, none⟩ y2).setCell ⟨R, 3, none⟩ y3).setCell ⟨R, 4, none⟩ y4) := by
  obtain ⟨h1, h2, h3, h5, x0, x1, x2, x3, x4, h4⟩ := h
  rw [set5 h4]
  exact ⟨setRow_heap _ _ _ _ _ _ h4, below_setRow h1 h2.1 _⟩
end

set_option maxHeartbeats 4000000 in
theorem make_any (x k v : Int) (nm cd : ByteArray) (w : World) (hn : nm.size ≤ 140737488351232) (hc : cd.size ≤ 140737488351232) (hh : Has w) :
    Calls Tryz.prog 37 #[.int .i64 x, .int .i64 k, .agg (imgC nm v cd)] w fun e w' => e = .returned (.tuple #[.agg (mkS x k nm v cd), errV 96 (sgnE x k nm v cd)]) ∧ Below w.heap.size w w' := by
  have hbA := below_on (below_new w (.cells (imgC nm v cd) 23)) (below_new _ (.cells (sgnC { data := #[] } 0 { data := #[] } 0 0) 27))
  have HB := hide hbA
  have HI := hide (blk_keep (blk_new w (.cells (imgC nm v cd) 23)) (.cells (sgnC { data := #[] } 0 { data := #[] } 0 0) 27))
  have HG := hide (blk_two w (.cells (imgC nm v cd) 23) (.cells (sgnC { data := #[] } 0 { data := #[] } 0 0) 27))
  have ME := hide (fun (W : World) (h : Has W) => measure_any nm cd v W hn hc h)
  have CL := hide (fun (W : World) => clones_any nm cd v W hn hc)
  have HH := hide (hh.below hbA)
  clear hh hbA
  unfold imgC sgnC at HB HI HG HH
  unfold imgC at ME CL ⊢
  go_enter Tryz.func37, Tryz.ntmps37
  go_wp2_with (fail)
  refine (ME.out _ HH.out).mono ?_
  rintro e w1 ⟨rfl, hb1⟩
  have HB1 := hide (below_on HB.out hb1)
  have HI1 := hide (blk_below HI.out hb1)
  have HG1 := hide (blk_below HG.out hb1)
  clear hb1 HB HI HG HH ME
  by_cases hE : imgE nm v cd = 0
  · have SG := hide (fun W => sign_any x k (meaV nm v cd) W)
    have E := hide (sgnE_ok (x := x) (k := k) hE)
    have SC := hide (show sigC x k (meaV nm v cd) = 0 ∨ sigC x k (meaV nm v cd) = 1 by unfold sigC; split <;> simp)
    have V0 := hide (fun (h : sigC x k (meaV nm v cd) = 0) => mkS_ok (x := x) (k := k) (nm := nm) (v := v) (cd := cd) (E.out.trans h))
    have V1 := hide (fun (h : ¬ sigC x k (meaV nm v cd) = 0) => mkS_no (x := x) (k := k) (nm := nm) (v := v) (cd := cd) (fun e => h (E.out.symm.trans e)))
    rw [hE, errV_zero]
    clear hE
    unfold sealC at SG
    unfold sgnC at V0 V1
    generalize sigC x k (meaV nm v cd) = c at *
    generalize sigP x k (meaV nm v cd) = p at *
    generalize sigA x k (meaV nm v cd) = a at *
    go_wp2_with (fail)
    refine (SG.out _).mono ?_
    rintro e w2 ⟨rfl, hb2⟩
    have HB2 := hide (below_on HB1.out hb2)
    have HI2 := hide (blk_below HI1.out hb2)
    have HG2 := hide (blk_below HG1.out hb2)
    clear hb2 HB1 HI1 HG1 SG
    have hlt := blk_lt HG2.out
    have hli := blk_lt HI2.out
    rcases SC.out with rfl | rfl
    · have V := hide (V0.out rfl)
      clear V0 V1 SC
      rw [errV_zero]
      have hI : InvG w w.heap.size w2.heap.size (w.heap.size + 1) nm v cd p a (w2.alloc (.cells #[.int .i64 p, .int .i64 a] 25)) :=
        ⟨below_on HB2.out (below_new w2 _), ⟨by omega, by omega, by omega⟩, blk_keep HI2.out _, blk_new w2 _, _, _, _, _, _, blk_keep HG2.out _⟩
      obtain ⟨m0, m1, m2, s0, s1, f0, f1, f2, f3, f4, r0, r1, r2, r3, r4, _⟩ := invG_S hI
      clear HB2 HI2 HG2
      go_wp2_with (fail)
      go_region_held3 (fun W => W.cell? ⟨w.heap.size, 0, none⟩ = some (.string nm) ∧ W.cell? ⟨w.heap.size, 1, none⟩ = some (.int .i64 v) ∧ W.cell? ⟨w.heap.size, 2, none⟩ = some (.string cd) ∧ W.cell? ⟨w2.heap.size, 0, none⟩ = some (.int .i64 p) ∧ W.cell? ⟨w2.heap.size, 1, none⟩ = some (.int .i64 a)
        ∧ W.frozen? ⟨w.heap.size + 1, 0, none⟩ = false ∧ W.frozen? ⟨w.heap.size + 1, 1, none⟩ = false ∧ W.frozen? ⟨w.heap.size + 1, 2, none⟩ = false ∧ W.frozen? ⟨w.heap.size + 1, 3, none⟩ = false ∧ W.frozen? ⟨w.heap.size + 1, 4, none⟩ = false
        ∧ W.cell? ⟨w.heap.size + 1, 0, none⟩ = some (cellAt W (w.heap.size + 1) 0) ∧ W.cell? ⟨w.heap.size + 1, 1, none⟩ = some (cellAt W (w.heap.size + 1) 1) ∧ W.cell? ⟨w.heap.size + 1, 2, none⟩ = some (cellAt W (w.heap.size + 1) 2) ∧ W.cell? ⟨w.heap.size + 1, 3, none⟩ = some (cellAt W (w.heap.size + 1) 3) ∧ W.cell? ⟨w.heap.size + 1, 4, none⟩ = some (cellAt W (w.heap.size + 1) 4) ∧ InvG w w.heap.size w2.heap.size (w.heap.size + 1) nm v cd p a W)
        (exact invG_S (by repeat (first | assumption | apply invG_drew | apply invG_set)))
        (first | (go_at_call 52; refine (CL.out _).mono ?_; rintro e w5 ⟨rfl, hb5⟩; have hI5 : InvG w w.heap.size w2.heap.size (w.heap.size + 1) nm v cd p a w5 := invG_below (by repeat (first | assumption | apply invG_drew | apply invG_set)) hb5; clear hb5; obtain ⟨m50, m51, m52, s50, s51, f50, f51, f52, f53, f54, r50, r51, r52, r53, r54, _⟩ := invG_S hI5))
      all_goals
        go_wp2
        refine bodyPost_ret (v := .tuple #[.agg #[.string nm, .int .i64 v, .string cd, .int .i64 p, .int .i64 a], .nilIface]) ?_ rfl ⟨?_, ?_⟩
        · exact results_signed (p := 6) (u := 7) rfl _ _ (w.heap.size + 1) _ _ rfl rfl (invG_put (by repeat (first | assumption | apply invG_drew | apply invG_set)) _ _ _ _ _).1 rfl
        · rw [V.out, E.out]; rfl
        · exact (invG_put (by repeat (first | assumption | apply invG_drew | apply invG_set)) _ _ _ _ _).2
    · have V := hide (V1.out (by decide))
      clear V0 V1 SC
      obtain ⟨r0, r1, r2, r3, r4⟩ := cells5 HG2.out
      obtain ⟨g0, g1, g2, g3, g4⟩ := free5 HG2.out
      rw [errV_one]
      go_wp2
      rw [set5 HG2.out]
      refine bodyPost_ret (v := .tuple #[.agg #[.string { data := #[] }, .int .i64 0, .string { data := #[] }, .int .i64 0, .int .i64 0], .iface 96 (.int .i64 1)]) ?_ rfl ⟨?_, ?_⟩
      · exact results_signed (p := 6) (u := 7) rfl _ _ (w.heap.size + 1) _ _ rfl rfl (blk_keep (setRow_heap _ _ _ _ _ _ HG2.out) _) rfl
      · rw [V.out, E.out]; rfl
      · exact below_on (below_setRow HB2.out (by omega) _) (below_new _ _)
  · have E := hide (sgnE_img (x := x) (k := k) hE)
    have V := hide (mkS_no (x := x) (k := k) (nm := nm) (v := v) (cd := cd) (fun e => hE (E.out.symm.trans e)))
    have HX := hide (errV_ne (T := 96) hE)
    unfold sgnC at V
    rw [errV_ne hE]
    obtain ⟨r0, r1, r2, r3, r4⟩ := cells5 HG1.out
    obtain ⟨g0, g1, g2, g3, g4⟩ := free5 HG1.out
    clear hE
    go_wp2
    rw [set5 HG1.out]
    refine bodyPost_ret (v := .tuple #[.agg #[.string { data := #[] }, .int .i64 0, .string { data := #[] }, .int .i64 0, .int .i64 0], .iface 96 (.int .i64 (imgE nm v cd))]) ?_ rfl ⟨?_, ?_⟩
    · exact results_signed (p := 6) (u := 7) rfl _ _ (w.heap.size + 1) _ _ rfl rfl (setRow_heap _ _ _ _ _ _ HG1.out) rfl
    · rw [V.out, E.out, HX.out]
    · exact below_setRow HB1.out (by omega) _
end Go.Proofs.YtojdaifnljghkabGreatDoor.Sign
namespace Go.Proofs.YtojdaifnljghkabGreatDoor.M
open Go.RowKit Go.ChangeShapes Go.WideShapes Go.ChangeAt

/-- But for the blocks of S, what was there is as it was. -/
def Only (S : Nat → Prop) (w w' : World) : Prop :=
  w'.os = w.os ∧ w'.tape = w.tape ∧ w'.output = w.output ∧ w.heap.size ≤ w'.heap.size ∧ ∀ k, k < w.heap.size → ¬ S k → w'.heap[k]? = w.heap[k]?
section
variable {S T : Nat → Prop} {w w1 w2 : World}
theorem Only.refl (S : Nat → Prop) (w : World) : Only S w w := ⟨rfl, rfl, rfl, Nat.le_refl _, fun _ _ _ => rfl⟩
theorem Only.trans (h : Only S w w1) (h2 : Only T w1 w2) (hT : ∀ k, k < w.heap.size → T k → S k) : Only S w w2 :=
  ⟨h2.1.trans h.1, h2.2.1.trans h.2.1, h2.2.2.1.trans h.2.2.1, Nat.le_trans h.2.2.2.1 h2.2.2.2.1, fun k hk hn => (h2.2.2.2.2 k (Nat.lt_of_lt_of_le hk h.2.2.2.1) (fun ht => hn (hT k hk ht))).trans (h.2.2.2.2 k hk hn)⟩
theorem Only.of_below (h : Below w.heap.size w w1) : Only S w w1 := ⟨h.os, h.tape, h.output, h.size, fun k hk _ => h.block k hk⟩
theorem Only.below {B : Nat} (h : Only S w w1) (hB : B ≤ w.heap.size) (hS : ∀ k, S k → B ≤ k) : Below B w w1 :=
  ⟨h.1, h.2.1, h.2.2.1, h.2.2.2.1, fun k hk => h.2.2.2.2 k (Nat.lt_of_lt_of_le hk hB) (fun hs => absurd (hS k hs) (Nat.not_le.2 hk))⟩
theorem Only.size (h : Only S w w1) : w.heap.size ≤ w1.heap.size := h.2.2.2.1
theorem Only.heap (h : Only S w w1) {k : Nat} {o : Obj} (hk : w.heap[k]? = some o) (hn : ¬ S k) : w1.heap[k]? = some o := (h.2.2.2.2 k (blk_lt hk) hn).trans hk
theorem Only.alloc (h : Only S w w1) (o : Obj) : Only S w (w1.alloc o) := h.trans (Only.of_below (S := fun _ => False) (below_new w1 o)) (fun _ _ hf => hf.elim)
theorem Only.after (h : Only S w w1) (hb : Below w1.heap.size w1 w2) : Only S w w2 := h.trans (Only.of_below (S := fun _ => False) hb) (fun _ _ hf => hf.elim)
theorem Only.setCell (h : Only S w w1) {p : Addr} (hp : S p.block) (u : Value) : Only S w (w1.setCell p u) :=
  h.trans (T := fun k => k = p.block) ⟨rfl, rfl, rfl, by simp [World.setCell], fun k _ hn => Below.heap_setCell _ _ _ _ hn⟩ (fun k _ e => by rw [e]; exact hp)
theorem Only.setRow (h : Only S w w1) {b : Nat} (hp : S b) (cs : Array Value) : Only S w (w1.setRow b cs) :=
  h.trans (T := fun k => k = b) ⟨rfl, rfl, rfl, by simp [World.setRow], fun k _ hn => setRow_other _ _ _ _ hn⟩ (fun k _ e => by rw [e]; exact hp)
theorem Only.drew (h : Only S w w1) : Only S w w1.drew := h
theorem Only.grown (h : Only S w w1) {row : Option Nat} (hg : w1.grownBy w2 row) (hr : ∀ k, row = some k → S k ∨ w.heap.size ≤ k) : Only S w w2 :=
  h.trans (T := fun k => row = some k) ⟨hg.os, hg.tape, hg.output, hg.size, fun k hk hn => hg.block k hk (fun e => hn e.symm)⟩ (fun k hk e => by
    rcases hr k e with h | h
    · exact h
    · omega)
end
theorem Own.only {S : Nat → Prop} {w w1 : World} {base : Nat} {e : TypeId} {v : Value} {xs : List Int} (h : Own w base e v xs) (ho : Only S w w1) (hn : ∀ k, v.ownBlock = some k → ¬ S k) : Own w1 base e v xs := by
  refine ⟨h.1, ?_⟩
  rcases h.2 with h2 | ⟨g, cap, cur, h1, h2, h3, h4⟩
  · exact Or.inl h2
  · exact Or.inr ⟨g, cap, cur, h1, h2, ho.heap h3 (hn g (by rw [h1]; rfl)), h4⟩
theorem Own.lt {w : World} {base : Nat} {e : TypeId} {v : Value} {xs : List Int} (h : Own w base e v xs) : ∀ k, v.ownBlock = some k → k < w.heap.size := by
  intro k hk
  rcases h.2 with ⟨h2, _⟩ | ⟨g, cap, cur, h1, _, h3, _⟩
  · rw [h2] at hk; cases hk
  · rw [h1] at hk
    cases hk
    exact blk_lt h3

/-- 'x = append(x, ys...)' where x is a row of ints of the call's own and ys can be read; where the row lies then. -/
theorem wpList_appAt {P : Program} {w : World} {ops : Array Oper} {rest : List Oper} {o : Oper} {a : Act} {Q : Exit → Act → World → Prop} (hgd : o.guard = none) (s x : Operand) (t : TypeId)
    (ho : o.op = .call { callee := .builtin .append, args := #[s, x], argTypes := #[t, t] })
    (base : Nat) (e : TypeId) (hinfo : (P.info? e).map (fun i => (i.zero, i.size, i.bytes)) = some (some (.int .i64 0), 1, 8)) (ht : P.underlying t = some (.slice e))
    (v : Value) (xs : List Int) (hs : a.eval s = v) (hown : Own w base e v xs)
    (ad : Option Addr) (m c : Nat) (ys : List Int) (hx : a.eval x = .slice ad m c) (hm : m = ys.length) (hc : ad = none → c = 0) (hrow : Row w ad ys)
    (hb : xs.length + ys.length ≤ 1000000) (hbase : base ≤ w.heap.size)
    (h : ∀ v' w', Own w' base e v' (xs ++ ys) → w.grownBy w' v.ownBlock → (v'.ownBlock = v.ownBlock ∨ v'.ownBlock = some w.heap.size) → wpList P ops Q rest (a.put o.dst v') w') : wpList P ops Q (o :: rest) a w := by
  obtain ⟨i, hi, hz0, hz1, hz2⟩ := info_parts hinfo
  subst hm
  cases ad with
  | none =>
    have hy : ys = [] := by
      rcases hrow with h | ⟨b, off, h, _⟩
      · exact h
      · cases h
    subst hy
    rw [hc rfl] at hx
    refine wpList_append_own_none hgd s x t ho base e i 1 ht hi v xs.length _ hs hown hx (h v w (by simpa using hown) ⟨rfl, rfl, rfl, Nat.le_refl _, fun _ _ _ => rfl⟩ (Or.inl rfl))
  | some ad =>
    refine wpList_append_own_at w hgd s x t ho base e i (.int .i64 0) 1 8 ht hi hz0 hz1 hz2 rfl (by decide) v xs.length _ hs hown ad ys.length c (ys.map (Value.int .i64)) hx (by simp) ?_ ?_ (by unfold maxLen; omega) (by omega) hbase ?_
    · intro j u hj
      rw [List.getElem?_map] at hj
      obtain ⟨y, hy, rfl⟩ := Option.map_eq_some_iff.1 hj
      rcases hrow with h | ⟨b, off, h, hcell⟩
      · subst h; simp at hy
      · cases h
        rw [add_none]
        exact hcell j y hy
    · intro u hu
      obtain ⟨_, _, rfl⟩ := List.mem_map.1 hu
      rfl
    · intro v' w' h1 h2 _ h3
      refine h v' w' ?_ h2 h3
      have e1 : (xs ++ ys).length = xs.length + ys.length := by simp
      unfold Own
      rw [e1, List.map_append]
      exact h1
end Go.Proofs.YtojdaifnljghkabGreatDoor.M
namespace Go.Proofs.YtojdaifnljghkabGreatDoor.M
set_option linter.unusedVariables false

/-- A name is one to eight letters. -/
def nameB (s : ByteArray) : Bool := letS s && decide (1 ≤ s.size ∧ s.size ≤ 8)
def updF (f : ByteArray → Int) (nm : ByteArray) (v : Int) : ByteArray → Int := fun s => if s = nm then v else f s
/-- One raised: what is wrong, whether it is another one, and what is then. -/
def raiE (f : ByteArray → Int) (k : Nat) (nm : ByteArray) (v : Int) : Int :=
  if nameB nm = true then (if 0 ≤ v ∧ v ≤ 1000 then (if v ≤ f nm then 0 else if f nm = 0 ∧ 12 ≤ k then 4 else 0) else 1) else 3
def raiB (f : ByteArray → Int) (k : Nat) (nm : ByteArray) (v : Int) : Bool := decide (nameB nm = true ∧ (0 ≤ v ∧ v ≤ 1000) ∧ f nm < v ∧ ¬ (f nm = 0 ∧ 12 ≤ k))
def raiF (f : ByteArray → Int) (k : Nat) (nm : ByteArray) (v : Int) : ByteArray → Int := if raiB f k nm v = true then updF f nm v else f
def raiK (f : ByteArray → Int) (k : Nat) (nm : ByteArray) (v : Int) : Nat := if raiB f k nm v = true then (if f nm = 0 then k + 1 else k) else k
def leaE (nm : ByteArray) : Int := if nameB nm = true then 0 else 3
def leaV (f : ByteArray → Int) (nm : ByteArray) : Int := if nameB nm = true then f nm else 0
def mayE (f : ByteArray → Int) (nm : ByteArray) (v : Int) : Int := if nameB nm = true then (if 1 ≤ v ∧ v ≤ 1000 then (if v < f nm then 9 else 0) else 1) else 3
section
variable {f : ByteArray → Int} {k : Nat} {nm : ByteArray} {v : Int}
theorem raiB_iff : raiB f k nm v = true ↔ nameB nm = true ∧ (0 ≤ v ∧ v ≤ 1000) ∧ f nm < v ∧ ¬ (f nm = 0 ∧ 12 ≤ k) := by unfold raiB; rw [decide_eq_true_iff]
theorem raiE_rise (h : raiB f k nm v = true) : raiE f k nm v = 0 := by
  obtain ⟨h1, h2, h3, h4⟩ := raiB_iff.1 h
  unfold raiE
  rw [if_pos h1, if_pos h2, if_neg (by omega), if_neg h4]
theorem raiF_no (h : ¬ raiB f k nm v = true) : raiF f k nm v = f := if_neg h
theorem raiK_no (h : ¬ raiB f k nm v = true) : raiK f k nm v = k := if_neg h
theorem raiF_yes (h : raiB f k nm v = true) : raiF f k nm v = updF f nm v := if_pos h
theorem raiE_name (h : nameB nm = false) : raiE f k nm v = 3 ∧ raiB f k nm v = false := by
  refine ⟨by unfold raiE; rw [h]; rfl, ?_⟩
  cases hb : raiB f k nm v with
  | false => rfl
  | true => rw [(raiB_iff.1 hb).1] at h; cases h
theorem leaE_no (h : nameB nm = false) : leaE nm = 3 ∧ leaV f nm = 0 := by unfold leaE leaV; rw [h]; exact ⟨rfl, rfl⟩
theorem leaE_ok (h : nameB nm = true) : leaE nm = 0 ∧ leaV f nm = f nm := by unfold leaE leaV; rw [if_pos h, if_pos h]; exact ⟨rfl, rfl⟩
theorem updF_same : updF f nm v nm = v := if_pos rfl
/-- The least version never goes back; it is another one just where it is more. -/
theorem rai_least (h : nameB nm = true) : f nm ≤ raiF f k nm v nm ∧ (raiB f k nm v = decide (f nm < raiF f k nm v nm)) ∧ (¬ raiE f k nm v = 0 → raiF f k nm v nm = f nm) := by
  cases hb : raiB f k nm v with
  | true =>
    have h3 := (raiB_iff.1 hb).2.2.1
    rw [raiF_yes hb, updF_same]
    exact ⟨by omega, (decide_eq_true h3).symm, fun hn => absurd (raiE_rise hb) hn⟩
  | false =>
    rw [raiF_no (by rw [hb]; exact Bool.false_ne_true)]
    exact ⟨Int.le_refl _, (decide_eq_false (by omega)).symm, fun _ => rfl⟩
/-- Of one name alone there is always room: it is the greatest that was. -/
theorem rai_one (h : nameB nm = true) (hk : k ≤ 1) (hv : 0 ≤ f nm) : raiF f k nm v nm = if 0 ≤ v ∧ v ≤ 1000 ∧ f nm < v then v else f nm := by
  by_cases hc : 0 ≤ v ∧ v ≤ 1000 ∧ f nm < v
  · rw [if_pos hc, raiF_yes (raiB_iff.2 ⟨h, ⟨hc.1, hc.2.1⟩, hc.2.2, by omega⟩), updF_same]
  · rw [if_neg hc, raiF_no (fun hb => hc (by obtain ⟨_, h2, h3, _⟩ := raiB_iff.1 hb; exact ⟨h2.1, h2.2, h3⟩))]
end

/-- The names that a law lays: an n and a letter. -/
def nmI (i : Nat) : ByteArray := { data := #[110, UInt8.ofNat (97 + i)] }
theorem nmI_name_fin : ∀ i : Fin 20, nameB (nmI i.val) = true := by decide
theorem nmI_inj_fin : ∀ i j : Fin 20, nmI i.val = nmI j.val → i.val = j.val := by decide
theorem nmI_name {i : Nat} (h : i < 20) : nameB (nmI i) = true := nmI_name_fin ⟨i, h⟩
theorem nmI_inj {i j : Nat} (hi : i < 20) (hj : j < 20) (h : nmI i = nmI j) : i = j := nmI_inj_fin ⟨i, hi⟩ ⟨j, hj⟩ h
def inI (n : Nat) (s : ByteArray) : Bool := (List.range n).any fun j => decide (s = nmI j)
theorem inI_iff {n : Nat} {s : ByteArray} : inI n s = true ↔ ∃ j, j < n ∧ s = nmI j := by
  unfold inI
  rw [List.any_eq_true]
  exact ⟨fun ⟨j, hj, e⟩ => ⟨j, List.mem_range.1 hj, of_decide_eq_true e⟩, fun ⟨j, hj, e⟩ => ⟨j, List.mem_range.2 hj, decide_eq_true e⟩⟩
def fI (i : Nat) : ByteArray → Int := fun s => if inI (min i 12) s = true then 1 else 0
theorem fI_zero : fI 0 = fun _ => 0 := by
  funext s
  unfold fI
  rw [if_neg]
  intro h
  obtain ⟨j, hj, _⟩ := inI_iff.1 h
  omega
theorem fI_own {i : Nat} (h : i < 20) : fI i (nmI i) = 0 := by
  unfold fI
  rw [if_neg]
  intro hc
  obtain ⟨j, hj, e⟩ := inI_iff.1 hc
  have := nmI_inj (i := i) (j := j) h (by omega) e
  omega
theorem fI_next {i : Nat} (h : i < 12) : updF (fI i) (nmI i) 1 = fI (i + 1) := by
  funext s
  unfold updF fI
  rw [show min (i + 1) 12 = i + 1 by omega, show min i 12 = i by omega]
  by_cases e : s = nmI i
  · rw [if_pos e, if_pos (inI_iff.2 ⟨i, by omega, e⟩)]
  · rw [if_neg e]
    by_cases hm : inI i s = true
    · obtain ⟨j, hj, e2⟩ := inI_iff.1 hm
      rw [if_pos hm, if_pos (inI_iff.2 ⟨j, by omega, e2⟩)]
    · rw [if_neg hm, if_neg]
      intro hc
      obtain ⟨j, hj, e2⟩ := inI_iff.1 hc
      by_cases hji : j = i
      · rw [hji] at e2; exact e e2
      · exact hm (inI_iff.2 ⟨j, by omega, e2⟩)
theorem fI_full {i : Nat} (h : 12 ≤ i) : fI (i + 1) = fI i := by unfold fI; rw [show min (i + 1) 12 = min i 12 by omega]
theorem fI_zz (i : Nat) : fI i { data := #[122, 122] } = 0 := by
  unfold fI
  rw [if_neg]
  intro hc
  obtain ⟨j, hj, e⟩ := inI_iff.1 hc
  have h1 := congrArg (fun s : ByteArray => s.data.toList[0]?) e
  simp [nmI] at h1
end Go.Proofs.YtojdaifnljghkabGreatDoor.M
namespace Go.Proofs.YtojdaifnljghkabGreatDoor.Count
open Go.ChangeShapes Go.WideShapes Go.ChangeAt Go.RowKit
open Go.Proofs.YtojdaifnljghkabGreatDoor.M
set_option linter.unusedVariables false

structure Core (Cnt : World → Nat → Value → (Nat → Prop) → (ByteArray → Int) → Nat → Prop) : Prop where
  has : ∀ {W : World} {B : Nat} {p : Value} {S : Nat → Prop} {f : ByteArray → Int} {k : Nat}, Cnt W B p S f k → ∀ b, S b → B ≤ b ∧ b < W.heap.size
  only : ∀ {W W' : World} {B : Nat} {p : Value} {S T : Nat → Prop} {f : ByteArray → Int} {k : Nat}, Cnt W B p S f k → Only T W W' → (∀ b, S b → ¬ T b) → Cnt W' B p S f k
  new : ∀ (w : World) (B : Nat), B ≤ w.heap.size → Calls Tryz.prog 47 #[] w fun e w' => ∃ p S, e = .returned p ∧ Cnt w' B p S (fun _ => 0) 0 ∧ (∀ b, S b → w.heap.size ≤ b) ∧ Below w.heap.size w w'
theorem Core.below {Cnt : World → Nat → Value → (Nat → Prop) → (ByteArray → Int) → Nat → Prop} (L : Core Cnt) {W W' : World} {B : Nat} {p : Value} {S : Nat → Prop} {f : ByteArray → Int} {k : Nat} (h : Cnt W B p S f k) (hb : Below W.heap.size W W') : Cnt W' B p S f k :=
  L.only h (Only.of_below (S := fun _ => False) hb) (fun _ _ hf => hf)
/-- What Raise does, and what Least tells. -/
def RaiseLaw (Cnt : World → Nat → Value → (Nat → Prop) → (ByteArray → Int) → Nat → Prop) : Prop :=
  ∀ (p : Value) (S : Nat → Prop) (f : ByteArray → Int) (k : Nat) (nm : ByteArray) (v : Int) (w : World) (B : Nat), Cnt w B p S f k → nm.size ≤ 140737488351232 → B ≤ w.heap.size →
    Calls Tryz.prog 55 #[p, .string nm, .int .i64 v] w fun e w' => ∃ S', e = .returned (.tuple #[.bool (raiB f k nm v), errV 96 (raiE f k nm v)]) ∧ Cnt w' B p S' (raiF f k nm v) (raiK f k nm v) ∧ Only S w w' ∧ (∀ b, S' b → S b ∨ w.heap.size ≤ b)
def LeastLaw (Cnt : World → Nat → Value → (Nat → Prop) → (ByteArray → Int) → Nat → Prop) : Prop :=
  ∀ (p : Value) (S : Nat → Prop) (f : ByteArray → Int) (k : Nat) (nm : ByteArray) (w : World) (B : Nat), Cnt w B p S f k → nm.size ≤ 140737488351232 →
    Calls Tryz.prog 123 #[p, .string nm] w fun e w' => e = .returned (.tuple #[.int .i64 (leaV f nm), errV 96 (leaE nm)]) ∧ Below w.heap.size w w'
/-- All of it, where a law asks for both. -/
structure Laws (Cnt : World → Nat → Value → (Nat → Prop) → (ByteArray → Int) → Nat → Prop) : Prop extends Core Cnt where
  raise : RaiseLaw Cnt
  least : LeastLaw Cnt
/-- While nothing of it changes. -/
theorem Laws.below {Cnt : World → Nat → Value → (Nat → Prop) → (ByteArray → Int) → Nat → Prop} (L : Laws Cnt) {W W' : World} {B : Nat} {p : Value} {S : Nat → Prop} {f : ByteArray → Int} {k : Nat} (h : Cnt W B p S f k) (hb : Below W.heap.size W W') : Cnt W' B p S f k := L.toCore.below h hb
/-- And of May, where a law asks it. -/
def MayLaw (Cnt : World → Nat → Value → (Nat → Prop) → (ByteArray → Int) → Nat → Prop) : Prop :=
  ∀ (p : Value) (S : Nat → Prop) (f : ByteArray → Int) (k : Nat) (nm : ByteArray) (v : Int) (w : World) (B : Nat), Cnt w B p S f k → nm.size ≤ 140737488351232 →
    Calls Tryz.prog 125 #[p, .string nm, .int .i64 v] w fun e w' => e = .returned (errV 96 (mayE f nm v)) ∧ Below w.heap.size w w'
end Go.Proofs.YtojdaifnljghkabGreatDoor.Count
namespace Go.Proofs.YtojdaifnljghkabGreatDoor.M
set_option linter.unusedVariables false

/-- A signed image. -/
structure Sg where
  nm : ByteArray
  v : Int
  cd : ByteArray
  p : Int
  a : Int
/-- A slot. -/
structure Sl where
  s : Sg
  full : Bool
  tries : Int
  good : Bool
/-- Two slots, and which runs. -/
structure St where
  x : Sl
  y : Sl
  r : Bool
def noSg : Sg := ⟨{ data := #[] }, 0, { data := #[] }, 0, 0⟩
def noSl : Sl := ⟨noSg, false, 0, false⟩
def sgV (s : Sg) : List Value := [.string s.nm, .int .i64 s.v, .string s.cd, .int .i64 s.p, .int .i64 s.a]
def slV (l : Sl) : List Value := sgV l.s ++ [.bool l.full, .int .i64 l.tries, .bool l.good]
def St.at (t : St) (i : Bool) : Sl := match i with | false => t.x | true => t.y
def St.put (t : St) (i : Bool) (l : Sl) : St := match i with | false => { t with x := l } | true => { t with y := l }
def idx (i : Bool) : Int := match i with | false => 0 | true => 1
def newT (s : Sg) : St := ⟨⟨s, true, 0, true⟩, noSl, false⟩
def safeT (t : St) : Bool := if (t.at t.r).good = true then t.r else !t.r
def pickT (t : St) : Bool := if (t.at (!safeT t)).full = true ∧ (t.at (!safeT t)).good = false ∧ 0 < (t.at (!safeT t)).tries then !safeT t else safeT t
def sgE (s : Sg) : Int := imgE s.nm s.v s.cd
def putE (t : St) (s : Sg) : Int := if sgE s = 0 then (if (t.at t.r).good = true then 0 else 6) else sgE s
def putT (t : St) (s : Sg) : St := if putE t s = 0 then t.put (!t.r) ⟨s, true, 3, false⟩ else t
def runT (t : St) (i : Bool) : St := { t with r := i }
def lessL (l : Sl) : Sl := if l.good = true then l else { l with tries := l.tries - 1 }
def startT (t : St) : St := (runT t (pickT t)).put (pickT t) (lessL (t.at (pickT t)))
def goodE (t : St) : Int := if (t.at t.r).good = true then 7 else 0
def goodT (t : St) : St := if (t.at t.r).good = true then t else (t.put t.r { (t.at t.r) with good := true, tries := 0 }).put (!t.r) noSl
/-- Just one is good, and it is full, as is the one that runs; no more tries than three. -/
structure OkT (t : St) : Prop where
  one : (t.at (!safeT t)).good = false
  good : (t.at (safeT t)).good = true
  full : (t.at (safeT t)).full = true
  run : (t.at t.r).full = true
  x : 0 ≤ t.x.tries ∧ t.x.tries ≤ 3
  y : 0 ≤ t.y.tries ∧ t.y.tries ≤ 3
theorem ok_new (s : Sg) : OkT (newT s) := ⟨rfl, rfl, rfl, rfl, by simp [newT], by simp [newT, noSl]⟩
theorem ok_put {t : St} (h : OkT t) (s : Sg) : OkT (putT t s) := by
  unfold putT
  by_cases he : putE t s = 0
  · rw [if_pos he]
    have hg : (t.at t.r).good = true := by
      unfold putE at he
      by_cases h1 : sgE s = 0
      · rw [if_pos h1] at he
        by_cases h2 : (t.at t.r).good = true
        · exact h2
        · rw [if_neg h2] at he; cases he
      · rw [if_neg h1] at he; exact absurd he h1
    obtain ⟨h1, h2, h3, h6, h4, h5⟩ := h
    obtain ⟨x, y, r⟩ := t
    cases r
    · simp [St.at] at hg h6
      refine ⟨?_, ?_, ?_, ?_, h4, ?_⟩ <;> simp [safeT, St.at, St.put, hg, h6]
    · simp [St.at] at hg h6
      refine ⟨?_, ?_, ?_, ?_, ?_, h5⟩ <;> simp [safeT, St.at, St.put, hg, h6]
  · rw [if_neg he]; exact h
theorem ok_start {t : St} (h : OkT t) : OkT (startT t) := by
  obtain ⟨h1, h2, h3, h6, h4, h5⟩ := h
  obtain ⟨x, y, r⟩ := t
  unfold startT
  by_cases hp : ((⟨x, y, r⟩ : St).at (!safeT ⟨x, y, r⟩)).full = true ∧ ((⟨x, y, r⟩ : St).at (!safeT ⟨x, y, r⟩)).good = false ∧ 0 < ((⟨x, y, r⟩ : St).at (!safeT ⟨x, y, r⟩)).tries
  · have e : pickT ⟨x, y, r⟩ = !safeT ⟨x, y, r⟩ := by unfold pickT; rw [if_pos hp]
    rw [e]
    generalize safeT ⟨x, y, r⟩ = q at *
    cases q
    · simp [St.at] at h1 h2 h3 hp h4 h5
      refine ⟨?_, ?_, ?_, ?_, ?_, ?_⟩ <;> simp [safeT, St.at, St.put, runT, lessL, h1, h2, h3, h4, hp] <;> omega
    · simp [St.at] at h1 h2 h3 hp h4 h5
      refine ⟨?_, ?_, ?_, ?_, ?_, ?_⟩ <;> simp [safeT, St.at, St.put, runT, lessL, h1, h2, h3, h5, hp] <;> omega
  · have e : pickT ⟨x, y, r⟩ = safeT ⟨x, y, r⟩ := by unfold pickT; rw [if_neg hp]
    rw [e]
    generalize safeT ⟨x, y, r⟩ = q at *
    cases q
    · simp [St.at] at h1 h2 h3 h4 h5
      refine ⟨?_, ?_, ?_, ?_, ?_, ?_⟩ <;> simp [safeT, St.at, St.put, runT, lessL, h1, h2, h3, h4, h5]
    · simp [St.at] at h1 h2 h3 h4 h5
      refine ⟨?_, ?_, ?_, ?_, ?_, ?_⟩ <;> simp [safeT, St.at, St.put, runT, lessL, h1, h2, h3, h4, h5]
theorem ok_good {t : St} (h : OkT t) : OkT (goodT t) := by
  unfold goodT
  by_cases hg : (t.at t.r).good = true
  · rw [if_pos hg]; exact h
  · rw [if_neg hg]
    obtain ⟨h1, h2, h3, h6, h4, h5⟩ := h
    obtain ⟨x, y, r⟩ := t
    cases r
    · simp [St.at] at h6
      refine ⟨?_, ?_, ?_, ?_, ?_, ?_⟩ <;> simp [safeT, St.at, St.put, noSl, h6]
    · simp [St.at] at h6
      refine ⟨?_, ?_, ?_, ?_, ?_, ?_⟩ <;> simp [safeT, St.at, St.put, noSl, h6]
/-- How many tries are left in the slot that is not good. -/
def leftT (t : St) : Int := if (t.at (!safeT t)).full = true then (t.at (!safeT t)).tries else 0
end Go.Proofs.YtojdaifnljghkabGreatDoor.M
namespace Go.Proofs.YtojdaifnljghkabGreatDoor.M
/-- A signed image, and a slot, as values. -/
def sgA (s : Sg) : Value := .agg #[.string s.nm, .int .i64 s.v, .string s.cd, .int .i64 s.p, .int .i64 s.a]
def slA (l : Sl) : Value := .agg #[.string l.s.nm, .int .i64 l.s.v, .string l.s.cd, .int .i64 l.s.p, .int .i64 l.s.a, .bool l.full, .int .i64 l.tries, .bool l.good]
def szS (s : Sg) : Prop := s.nm.size ≤ 140737488351232 ∧ s.cd.size ≤ 140737488351232
def atE (i : Int) : Int := if i = 0 ∨ i = 1 then 0 else 1
def atL (t : St) (i : Int) : Sl := if i = 0 then t.x else if i = 1 then t.y else noSl
end Go.Proofs.YtojdaifnljghkabGreatDoor.M
namespace Go.Proofs.YtojdaifnljghkabGreatDoor.Slot
open Go.ChangeShapes Go.WideShapes Go.ChangeAt Go.RowKit
open Go.Proofs.YtojdaifnljghkabGreatDoor.M
set_option linter.unusedVariables false

structure Core (Slt : World → Nat → Value → (Nat → Prop) → St → Prop) : Prop where
  has : ∀ {W : World} {B : Nat} {p : Value} {S : Nat → Prop} {t : St}, Slt W B p S t → ∀ b, S b → B ≤ b ∧ b < W.heap.size
  only : ∀ {W W' : World} {B : Nat} {p : Value} {S T : Nat → Prop} {t : St}, Slt W B p S t → Only T W W' → (∀ b, S b → ¬ T b) → Slt W' B p S t
  ok : ∀ {W : World} {B : Nat} {p : Value} {S : Nat → Prop} {t : St}, Slt W B p S t → OkT t
  newNo : ∀ (s : Sg) (w : World), szS s → ¬ sgE s = 0 → Calls Tryz.prog 46 #[sgA s] w fun e w' => e = .returned (.tuple #[.pointer none, errV 96 (sgE s)]) ∧ Below w.heap.size w w'
  new : ∀ (s : Sg) (w : World) (B : Nat), szS s → sgE s = 0 → B ≤ w.heap.size → Calls Tryz.prog 46 #[sgA s] w fun e w' => ∃ p S, e = .returned (.tuple #[p, .nilIface]) ∧ Slt w' B p S (newT s) ∧ (∀ b, S b → w.heap.size ≤ b) ∧ Below w.heap.size w w'
/-- While nothing of it changes. -/
theorem Core.below {Slt : World → Nat → Value → (Nat → Prop) → St → Prop} (L : Core Slt) {W W' : World} {B : Nat} {p : Value} {S : Nat → Prop} {t : St} (h : Slt W B p S t) (hb : Below W.heap.size W W') : Slt W' B p S t :=
  L.only h (Only.of_below (S := fun _ => False) hb) (fun _ _ hf => hf)
/-- What Good, Start and At do. -/
def GoodLaw (Slt : World → Nat → Value → (Nat → Prop) → St → Prop) : Prop :=
  ∀ (p : Value) (S : Nat → Prop) (t : St) (w : World) (B : Nat), Slt w B p S t → B ≤ w.heap.size →
    Calls Tryz.prog 54 #[p] w fun e w' => ∃ S', e = .returned (errV 96 (goodE t)) ∧ Slt w' B p S' (goodT t) ∧ Only S w w' ∧ (∀ b, S' b → S b ∨ w.heap.size ≤ b)
def StartLaw (Slt : World → Nat → Value → (Nat → Prop) → St → Prop) : Prop :=
  ∀ (p : Value) (S : Nat → Prop) (t : St) (w : World) (B : Nat), Slt w B p S t → B ≤ w.heap.size →
    Calls Tryz.prog 51 #[p] w fun e w' => ∃ S', e = .returned (sgA (t.at (pickT t)).s) ∧ Slt w' B p S' (startT t) ∧ Only S w w' ∧ (∀ b, S' b → S b ∨ w.heap.size ≤ b)
def AtLaw (Slt : World → Nat → Value → (Nat → Prop) → St → Prop) : Prop :=
  ∀ (p : Value) (S : Nat → Prop) (t : St) (i : Int) (w : World) (B : Nat), Slt w B p S t →
    Calls Tryz.prog 48 #[p, .int .i64 i] w fun e w' => e = .returned (.tuple #[slA (atL t i), errV 96 (atE i)]) ∧ Below w.heap.size w w'
/-- All of it, where a law asks for all. -/
structure Laws (Slt : World → Nat → Value → (Nat → Prop) → St → Prop) : Prop extends Core Slt where
  good : GoodLaw Slt
  start : StartLaw Slt
  at' : AtLaw Slt
/-- While nothing of it changes. -/
theorem Laws.below {Slt : World → Nat → Value → (Nat → Prop) → St → Prop} (L : Laws Slt) {W W' : World} {B : Nat} {p : Value} {S : Nat → Prop} {t : St} (h : Slt W B p S t) (hb : Below W.heap.size W W') : Slt W' B p S t := L.toCore.below h hb
/-- And of Put and of Pick, where a law asks them. -/
def PutLaw (Slt : World → Nat → Value → (Nat → Prop) → St → Prop) : Prop :=
  ∀ (p : Value) (S : Nat → Prop) (t : St) (s : Sg) (w : World) (B : Nat), Slt w B p S t → szS s → B ≤ w.heap.size →
    Calls Tryz.prog 97 #[p, sgA s] w fun e w' => ∃ S', e = .returned (errV 96 (putE t s)) ∧ Slt w' B p S' (putT t s) ∧ Only S w w' ∧ (∀ b, S' b → S b ∨ w.heap.size ≤ b)
def PickLaw (Slt : World → Nat → Value → (Nat → Prop) → St → Prop) : Prop :=
  ∀ (p : Value) (S : Nat → Prop) (t : St) (w : World) (B : Nat), Slt w B p S t →
    Calls Tryz.prog 49 #[p] w fun e w' => e = .returned (.int .i64 (idx (pickT t))) ∧ Below w.heap.size w w'
end Go.Proofs.YtojdaifnljghkabGreatDoor.Slot
namespace Go.Proofs.YtojdaifnljghkabGreatDoor.SlotRef
open Go.ChangeShapes Go.WideShapes Go.ChangeAt Go.RowKit
open Go.Proofs.YtojdaifnljghkabGreatDoor.M
set_option linter.unusedVariables false

/-- The cells of two slots, and which runs. -/
def stC (t : St) : Array Value :=
  #[.string t.x.s.nm, .int .i64 t.x.s.v, .string t.x.s.cd, .int .i64 t.x.s.p, .int .i64 t.x.s.a, .bool t.x.full, .int .i64 t.x.tries, .bool t.x.good,
    .string t.y.s.nm, .int .i64 t.y.s.v, .string t.y.s.cd, .int .i64 t.y.s.p, .int .i64 t.y.s.a, .bool t.y.full, .int .i64 t.y.tries, .bool t.y.good, .int .i64 (idx t.r)]

theorem quiet_below (w : World) : ∀ n, Below w.heap.size w (w.drewN n)
  | 0 => Below.refl _ _
  | n + 1 => Below.drew (quiet_below w n)
theorem heap_quiet (w : World) : ∀ n, (w.drewN n).heap = w.heap
  | 0 => rfl
  | n + 1 => heap_quiet w n

theorem at_cell {w : World} {g : Nat} {t : St} {T : TypeId} (h : w.heap[g]? = some (.cells (stC t) T)) (i : Nat) : w.cell? ⟨g, i, none⟩ = (stC t)[i]? := cell_of_row w g i _ _ _ h
theorem at_free {w : World} {g : Nat} {c : Array Value} {T : TypeId} (h : w.heap[g]? = some (.cells c T)) (i : Nat) : w.frozen? ⟨g, i, none⟩ = false := frozen_of_row w g i _ _ h

theorem cells8 {w : World} {g : Nat} {t : St} {T : TypeId} (h : w.heap[g]? = some (.cells (stC t) T)) :
    (w.cell? ⟨g, 0, none⟩ = some (.string t.x.s.nm) ∧ w.cell? ⟨g, 1, none⟩ = some (.int .i64 t.x.s.v) ∧ w.cell? ⟨g, 2, none⟩ = some (.string t.x.s.cd) ∧ w.cell? ⟨g, 3, none⟩ = some (.int .i64 t.x.s.p) ∧ w.cell? ⟨g, 4, none⟩ = some (.int .i64 t.x.s.a) ∧ w.cell? ⟨g, 5, none⟩ = some (.bool t.x.full) ∧ w.cell? ⟨g, 6, none⟩ = some (.int .i64 t.x.tries) ∧ w.cell? ⟨g, 7, none⟩ = some (.bool t.x.good))
    ∧ (w.cell? ⟨g, 8, none⟩ = some (.string t.y.s.nm) ∧ w.cell? ⟨g, 9, none⟩ = some (.int .i64 t.y.s.v) ∧ w.cell? ⟨g, 10, none⟩ = some (.string t.y.s.cd) ∧ w.cell? ⟨g, 11, none⟩ = some (.int .i64 t.y.s.p) ∧ w.cell? ⟨g, 12, none⟩ = some (.int .i64 t.y.s.a) ∧ w.cell? ⟨g, 13, none⟩ = some (.bool t.y.full) ∧ w.cell? ⟨g, 14, none⟩ = some (.int .i64 t.y.tries) ∧ w.cell? ⟨g, 15, none⟩ = some (.bool t.y.good))
    ∧ w.cell? ⟨g, 16, none⟩ = some (.int .i64 (idx t.r)) := by
  refine ⟨⟨?_, ?_, ?_, ?_, ?_, ?_, ?_, ?_⟩, ⟨?_, ?_, ?_, ?_, ?_, ?_, ?_, ?_⟩, ?_⟩ <;> rw [at_cell h] <;> rfl

def objSet (i : Nat) (v : Value) : Obj → Obj
  | .cells c T fr => .cells (c.setIfInBounds i v) T fr
  | o => o
theorem heap_set {W : World} {g i : Nat} {v : Value} {c : Array Value} {T : TypeId} {fr : Nat × Nat} (h : W.heap[g]? = some (.cells c T fr)) : (W.setCell ⟨g, i, none⟩ v).heap[g]? = some (.cells (c.setIfInBounds i v) T fr) := by
  rw [setCell_eq_setRow W g i _ _ _ v h]
  exact setRow_heap _ _ _ _ _ _ h
theorem blk2 (w : World) (o o' : Obj) : ((w.alloc o).alloc o').heap[w.heap.size + 1]? = some o' := by
  have := blk_new (w.alloc o) o'
  simpa using this
theorem cellsS {w : World} {b : Nat} {x0 x1 x2 x3 x4 : Value} {t : TypeId} {fr : Nat × Nat} (h : w.heap[b]? = some (.cells #[x0, x1, x2, x3, x4] t fr)) :
    w.cell? ⟨b, 0, none⟩ = some x0 ∧ w.cell? ⟨b, 1, none⟩ = some x1 ∧ w.cell? ⟨b, 2, none⟩ = some x2 ∧ w.cell? ⟨b, 3, none⟩ = some x3 ∧ w.cell? ⟨b, 4, none⟩ = some x4 := by
  refine ⟨?_, ?_, ?_, ?_, ?_⟩ <;> rw [cell_of_row w b _ _ t fr h] <;> rfl

section
variable {W : World} {g : Nat} {T : TypeId} {fr : Nat × Nat} {a0 a1 a2 a3 a4 a5 a6 a7 a8 a9 a10 a11 a12 a13 a14 a15 a16 v : Value}
theorem hs0 (h : W.heap[g]? = some (.cells #[a0, a1, a2, a3, a4, a5, a6, a7, a8, a9, a10, a11, a12, a13, a14, a15, a16] T fr)) : (W.setCell ⟨g, 0, none⟩ v).heap[g]? = some (.cells #[v, a1, a2, a3, a4, a5, a6, a7, a8, a9, a10, a11, a12, a13, a14, a15, a16] T fr) := (heap_set h).trans rfl
theorem hs1 (h : W.heap[g]? = some (.cells #[a0, a1, a2, a3, a4, a5, a6, a7, a8, a9, a10, a11, a12, a13, a14, a15, a16] T fr)) : (W.setCell ⟨g, 1, none⟩ v).heap[g]? = some (.cells #[a0, v, a2, a3, a4, a5, a6, a7, a8, a9, a10, a11, a12, a13, a14, a15, a16] T fr) := (heap_set h).trans rfl
theorem hs2 (h : W.heap[g]? = some (.cells #[a0, a1, a2, a3, a4, a5, a6, a7, a8, a9, a10, a11, a12, a13, a14, a15, a16] T fr)) : (W.setCell ⟨g, 2, none⟩ v).heap[g]? = some (.cells #[a0, a1, v, a3, a4, a5, a6, a7, a8, a9, a10, a11, a12, a13, a14, a15, a16] T fr) := (heap_set h).trans rfl
theorem hs3 (h : W.heap[g]? = some (.cells #[a0, a1, a2, a3, a4, a5, a6, a7, a8, a9, a10, a11, a12, a13, a14, a15, a16] T fr)) : (W.setCell ⟨g, 3, none⟩ v).heap[g]? = some (.cells #[a0, a1, a2, v, a4, a5, a6, a7, a8, a9, a10, a11, a12, a13, a14, a15, a16] T fr) := (heap_set h).trans rfl
theorem hs4 (h : W.heap[g]? = some (.cells #[a0, a1, a2, a3, a4, a5, a6, a7, a8, a9, a10, a11, a12, a13, a14, a15, a16] T fr)) : (W.setCell ⟨g, 4, none⟩ v).heap[g]? = some (.cells #[a0, a1, a2, a3, v, a5, a6, a7, a8, a9, a10, a11, a12, a13, a14, a15, a16] T fr) := (heap_set h).trans rfl
theorem hs5 (h : W.heap[g]? = some (.cells #[a0, a1, a2, a3, a4, a5, a6, a7, a8, a9, a10, a11, a12, a13, a14, a15, a16] T fr)) : (W.setCell ⟨g, 5, none⟩ v).heap[g]? = some (.cells #[a0, a1, a2, a3, a4, v, a6, a7, a8, a9, a10, a11, a12, a13, a14, a15, a16] T fr) := (heap_set h).trans rfl
theorem hs6 (h : W.heap[g]? = some (.cells #[a0, a1, a2, a3, a4, a5, a6, a7, a8, a9, a10, a11, a12, a13, a14, a15, a16] T fr)) : (W.setCell ⟨g, 6, none⟩ v).heap[g]? = some (.cells #[a0, a1, a2, a3, a4, a5, v, a7, a8, a9, a10, a11, a12, a13, a14, a15, a16] T fr) := (heap_set h).trans rfl
theorem hs7 (h : W.heap[g]? = some (.cells #[a0, a1, a2, a3, a4, a5, a6, a7, a8, a9, a10, a11, a12, a13, a14, a15, a16] T fr)) : (W.setCell ⟨g, 7, none⟩ v).heap[g]? = some (.cells #[a0, a1, a2, a3, a4, a5, a6, v, a8, a9, a10, a11, a12, a13, a14, a15, a16] T fr) := (heap_set h).trans rfl
theorem hs8 (h : W.heap[g]? = some (.cells #[a0, a1, a2, a3, a4, a5, a6, a7, a8, a9, a10, a11, a12, a13, a14, a15, a16] T fr)) : (W.setCell ⟨g, 8, none⟩ v).heap[g]? = some (.cells #[a0, a1, a2, a3, a4, a5, a6, a7, v, a9, a10, a11, a12, a13, a14, a15, a16] T fr) := (heap_set h).trans rfl
theorem hs9 (h : W.heap[g]? = some (.cells #[a0, a1, a2, a3, a4, a5, a6, a7, a8, a9, a10, a11, a12, a13, a14, a15, a16] T fr)) : (W.setCell ⟨g, 9, none⟩ v).heap[g]? = some (.cells #[a0, a1, a2, a3, a4, a5, a6, a7, a8, v, a10, a11, a12, a13, a14, a15, a16] T fr) := (heap_set h).trans rfl
theorem hs10 (h : W.heap[g]? = some (.cells #[a0, a1, a2, a3, a4, a5, a6, a7, a8, a9, a10, a11, a12, a13, a14, a15, a16] T fr)) : (W.setCell ⟨g, 10, none⟩ v).heap[g]? = some (.cells #[a0, a1, a2, a3, a4, a5, a6, a7, a8, a9, v, a11, a12, a13, a14, a15, a16] T fr) := (heap_set h).trans rfl
theorem hs11 (h : W.heap[g]? = some (.cells #[a0, a1, a2, a3, a4, a5, a6, a7, a8, a9, a10, a11, a12, a13, a14, a15, a16] T fr)) : (W.setCell ⟨g, 11, none⟩ v).heap[g]? = some (.cells #[a0, a1, a2, a3, a4, a5, a6, a7, a8, a9, a10, v, a12, a13, a14, a15, a16] T fr) := (heap_set h).trans rfl
theorem hs12 (h : W.heap[g]? = some (.cells #[a0, a1, a2, a3, a4, a5, a6, a7, a8, a9, a10, a11, a12, a13, a14, a15, a16] T fr)) : (W.setCell ⟨g, 12, none⟩ v).heap[g]? = some (.cells #[a0, a1, a2, a3, a4, a5, a6, a7, a8, a9, a10, a11, v, a13, a14, a15, a16] T fr) := (heap_set h).trans rfl
theorem hs13 (h : W.heap[g]? = some (.cells #[a0, a1, a2, a3, a4, a5, a6, a7, a8, a9, a10, a11, a12, a13, a14, a15, a16] T fr)) : (W.setCell ⟨g, 13, none⟩ v).heap[g]? = some (.cells #[a0, a1, a2, a3, a4, a5, a6, a7, a8, a9, a10, a11, a12, v, a14, a15, a16] T fr) := (heap_set h).trans rfl
theorem hs14 (h : W.heap[g]? = some (.cells #[a0, a1, a2, a3, a4, a5, a6, a7, a8, a9, a10, a11, a12, a13, a14, a15, a16] T fr)) : (W.setCell ⟨g, 14, none⟩ v).heap[g]? = some (.cells #[a0, a1, a2, a3, a4, a5, a6, a7, a8, a9, a10, a11, a12, a13, v, a15, a16] T fr) := (heap_set h).trans rfl
theorem hs15 (h : W.heap[g]? = some (.cells #[a0, a1, a2, a3, a4, a5, a6, a7, a8, a9, a10, a11, a12, a13, a14, a15, a16] T fr)) : (W.setCell ⟨g, 15, none⟩ v).heap[g]? = some (.cells #[a0, a1, a2, a3, a4, a5, a6, a7, a8, a9, a10, a11, a12, a13, a14, v, a16] T fr) := (heap_set h).trans rfl
theorem hs16 (h : W.heap[g]? = some (.cells #[a0, a1, a2, a3, a4, a5, a6, a7, a8, a9, a10, a11, a12, a13, a14, a15, a16] T fr)) : (W.setCell ⟨g, 16, none⟩ v).heap[g]? = some (.cells #[a0, a1, a2, a3, a4, a5, a6, a7, a8, a9, a10, a11, a12, a13, a14, a15, v] T fr) := (heap_set h).trans rfl
end
theorem only8 {S : Nat → Prop} {w W : World} {g : Nat} {i0 i1 i2 i3 i4 i5 i6 i7 : Nat} {v0 v1 v2 v3 v4 v5 v6 v7 : Value} (hp : S g) (h : Only S w W) :
    Only S w ((((((((W.setCell ⟨g, i0, none⟩ v0).setCell ⟨g, i1, none⟩ v1).setCell ⟨g, i2, none⟩ v2).setCell ⟨g, i3, none⟩ v3).setCell ⟨g, i4, none⟩ v4).setCell ⟨g, i5, none⟩ v5).setCell ⟨g, i6, none⟩ v6).setCell ⟨g, i7, none⟩ v7) :=
  (((((((h.setCell (p := ⟨g, i0, none⟩) hp v0).setCell (p := ⟨g, i1, none⟩) hp v1).setCell (p := ⟨g, i2, none⟩) hp v2).setCell (p := ⟨g, i3, none⟩) hp v3).setCell (p := ⟨g, i4, none⟩) hp v4).setCell (p := ⟨g, i5, none⟩) hp v5).setCell (p := ⟨g, i6, none⟩) hp v6).setCell (p := ⟨g, i7, none⟩) hp v7
/-- All cells may be written. -/
theorem frees {w : World} {g : Nat} {t : St} {T : TypeId} (h : w.heap[g]? = some (.cells (stC t) T)) :
    (w.frozen? ⟨g, 0, none⟩ = false ∧ w.frozen? ⟨g, 1, none⟩ = false ∧ w.frozen? ⟨g, 2, none⟩ = false ∧ w.frozen? ⟨g, 3, none⟩ = false ∧ w.frozen? ⟨g, 4, none⟩ = false ∧ w.frozen? ⟨g, 5, none⟩ = false ∧ w.frozen? ⟨g, 6, none⟩ = false ∧ w.frozen? ⟨g, 7, none⟩ = false)
    ∧ (w.frozen? ⟨g, 8, none⟩ = false ∧ w.frozen? ⟨g, 9, none⟩ = false ∧ w.frozen? ⟨g, 10, none⟩ = false ∧ w.frozen? ⟨g, 11, none⟩ = false ∧ w.frozen? ⟨g, 12, none⟩ = false ∧ w.frozen? ⟨g, 13, none⟩ = false ∧ w.frozen? ⟨g, 14, none⟩ = false ∧ w.frozen? ⟨g, 15, none⟩ = false)
    ∧ w.frozen? ⟨g, 16, none⟩ = false :=
  ⟨⟨at_free h _, at_free h _, at_free h _, at_free h _, at_free h _, at_free h _, at_free h _, at_free h _⟩, ⟨at_free h _, at_free h _, at_free h _, at_free h _, at_free h _, at_free h _, at_free h _, at_free h _⟩, at_free h _⟩

theorem drew_heap (w : World) : w.drew.heap = w.heap := rfl
theorem drew_only (S : Nat → Prop) (w W : World) : Only S w W.drew = Only S w W := rfl

theorem info_signed : (Tryz.prog.info? 27).map (·.size) = some 5 := by kernel_rfl
theorem load_signed {w : World} {b : Nat} {c : Array Value} {fr : Nat × Nat} (h : w.heap[b]? = some (.cells c 27 fr)) (hs : c.size = 5) : (loadVar 27 ⟨b, 0, none⟩).run Tryz.prog w = .ok (.agg c) w :=
  run_loadVar_row w b _ _ c fr _ h Tryz.underlying27 rfl (by rw [info_signed, hs])
theorem res_one {fn : Func} {p : Tmp} {ty : TypeId} (h : fn.results = #[.cell p ty]) (tmps : Array Value) (P : Program) (w : World) :
    (results fn tmps).run P w = ((asAddr (tmps.getD p undef)).run P w).andThen fun a w1 => (loadVar ty a).run P w1 := by
  simp only [results, h]
  simp [Sem.run_bind, Result.andThen]
theorem results_sg {fn : Func} {p : Tmp} (h : fn.results = #[.cell p 27]) (tmps : Array Value) (w : World) (b : Nat) (c : Array Value) (hp : tmps.getD p undef = .pointer (some ⟨b, 0, none⟩))
    (hg : w.heap[b]? = some (.cells c 27)) (hs : c.size = 5) : (results fn tmps).run Tryz.prog w = .ok (.agg c) w := by
  rw [res_one h, hp]
  simp [asAddr, load_signed hg hs, Result.andThen]
section
variable {W w : World} {R g i0 i1 i2 i3 i4 : Nat} {T : TypeId} {fr : Nat × Nat} {a0 a1 a2 a3 a4 v0 v1 v2 v3 v4 : Value} {S : Nat → Prop} {o : Option Obj}
theorem r5 (h : W.heap[R]? = some (.cells #[a0, a1, a2, a3, a4] T fr)) : (((((W.setCell ⟨R, 0, none⟩ v0).setCell ⟨R, 1, none⟩ v1).setCell ⟨R, 2, none⟩ v2).setCell ⟨R, 3, none⟩ v3).setCell ⟨R, 4, none⟩ v4).heap[R]? = some (.cells #[v0, v1, v2, v3, v4] T fr) :=
  (heap_set (i := 4) (heap_set (i := 3) (heap_set (i := 2) (heap_set (i := 1) (heap_set (i := 0) h))))).trans rfl
theorem other5 (hn : g ≠ R) (h : W.heap[g]? = o) : (((((W.setCell ⟨R, i0, none⟩ v0).setCell ⟨R, i1, none⟩ v1).setCell ⟨R, i2, none⟩ v2).setCell ⟨R, i3, none⟩ v3).setCell ⟨R, i4, none⟩ v4).heap[g]? = o := by
  rw [Below.heap_setCell _ _ _ _ hn, Below.heap_setCell _ _ _ _ hn, Below.heap_setCell _ _ _ _ hn, Below.heap_setCell _ _ _ _ hn, Below.heap_setCell _ _ _ _ hn]
  exact h
theorem new1 (hR : w.heap.size ≤ R) (h : Only S w W) : Only S w (W.setCell ⟨R, i0, none⟩ v0) :=
  h.trans (T := fun k => k = R) ⟨rfl, rfl, rfl, by simp [World.setCell], fun k _ hn => Below.heap_setCell _ _ _ _ hn⟩ (fun k hk e => by omega)
theorem new5 (hR : w.heap.size ≤ R) (h : Only S w W) : Only S w (((((W.setCell ⟨R, i0, none⟩ v0).setCell ⟨R, i1, none⟩ v1).setCell ⟨R, i2, none⟩ v2).setCell ⟨R, i3, none⟩ v3).setCell ⟨R, i4, none⟩ v4) :=
  new1 hR (new1 hR (new1 hR (new1 hR (new1 hR h))))
end
end Go.Proofs.YtojdaifnljghkabGreatDoor.SlotRef
namespace Go.Proofs.YtojdaifnljghkabGreatDoor.M
open Go.RowKit Go.ChangeShapes Go.WideShapes Go.ChangeAt

/-- A thing in memory: its blocks, from B on, and what is so of it. -/
structure Thing (B : Nat) where
  F : Nat → Prop
  P : World → Prop
  has : ∀ {W : World}, P W → ∀ b, F b → B ≤ b ∧ b < W.heap.size
  st : ∀ {W W' : World} {T : Nat → Prop}, P W → Only T W W' → (∀ b, F b → ¬ T b) → P W'
/-- Some things that lie apart, above what was there. -/
structure Sep (w0 : World) (B : Nat) (its : List (Thing B)) (W : World) : Prop where
  ok : ∀ it ∈ its, it.P W
  ap : its.Pairwise (fun a b => ∀ k, a.F k → ¬ b.F k)
  lo : Below B w0 W
  hb : B ≤ W.heap.size
section
variable {w0 W W' : World} {B : Nat} {its r : List (Thing B)} {i i' a b c d : Thing B}
theorem Sep.nil (h : Below B w0 W) (hb : B ≤ W.heap.size) : Sep w0 B [] W := ⟨fun it h => (by cases h), List.Pairwise.nil, h, hb⟩
theorem Sep.below (h : Sep w0 B its W) (hb : Below W.heap.size W W') : Sep w0 B its W' :=
  ⟨fun it hi => it.st (h.ok it hi) (Only.of_below (S := fun _ => False) hb) (fun _ _ hf => hf), h.ap, h.lo.trans (hb.mono h.hb), Nat.le_trans h.hb hb.size⟩
theorem Sep.drew (h : Sep w0 B its W) : Sep w0 B its W.drew := h.below (Below.drew (Below.refl _ _))
theorem Sep.perm (h : Sep w0 B its W) (hp : its.Perm r) : Sep w0 B r W :=
  ⟨fun it hi => h.ok it (hp.mem_iff.2 hi), (hp.pairwise_iff (fun hxy k hk hx => hxy k hx hk)).1 h.ap, h.lo, h.hb⟩
theorem Sep.step (h : Sep w0 B (i :: r) W) (hn : i'.P W') (ho : Only i.F W W') (hf : ∀ k, i'.F k → i.F k ∨ W.heap.size ≤ k) : Sep w0 B (i' :: r) W' := by
  obtain ⟨h1, h2⟩ := List.pairwise_cons.1 h.ap
  refine ⟨fun it hi => ?_, List.pairwise_cons.2 ⟨fun it hi k hk hit => ?_, h2⟩, h.lo.trans (ho.below h.hb (fun k hk => (i.has (h.ok i (List.mem_cons_self ..)) k hk).1)), Nat.le_trans h.hb ho.size⟩
  · rcases List.mem_cons.1 hi with rfl | hi
    · exact hn
    · exact it.st (h.ok it (List.mem_cons_of_mem _ hi)) ho (fun k hk hs => h1 it hi k hs hk)
  · rcases hf k hk with h3 | h3
    · exact h1 it hi k h3 hit
    · have := (it.has (h.ok it (List.mem_cons_of_mem _ hi)) k hit).2; omega
theorem Sep.step1 (h : Sep w0 B (a :: i :: r) W) (hn : i'.P W') (ho : Only i.F W W') (hf : ∀ k, i'.F k → i.F k ∨ W.heap.size ≤ k) : Sep w0 B (a :: i' :: r) W' :=
  ((h.perm (List.Perm.swap i a r)).step hn ho hf).perm (List.Perm.swap a i' r)
theorem Sep.step2 (h : Sep w0 B (a :: b :: i :: r) W) (hn : i'.P W') (ho : Only i.F W W') (hf : ∀ k, i'.F k → i.F k ∨ W.heap.size ≤ k) : Sep w0 B (a :: b :: i' :: r) W' :=
  ((h.perm ((List.Perm.swap i b r).cons a)).step1 hn ho hf).perm ((List.Perm.swap b i' r).cons a)
theorem Sep.step3 (h : Sep w0 B (a :: b :: c :: i :: r) W) (hn : i'.P W') (ho : Only i.F W W') (hf : ∀ k, i'.F k → i.F k ∨ W.heap.size ≤ k) : Sep w0 B (a :: b :: c :: i' :: r) W' :=
  ((h.perm (((List.Perm.swap i c r).cons b).cons a)).step2 hn ho hf).perm (((List.Perm.swap c i' r).cons b).cons a)
/-- One more, all of new blocks. -/
theorem Sep.add (h : Sep w0 B its W) (hb : Below W.heap.size W W') (hn : i.P W') (hf : ∀ k, i.F k → W.heap.size ≤ k) : Sep w0 B (i :: its) W' := by
  have h1 := h.below hb
  refine ⟨fun it hi => ?_, List.pairwise_cons.2 ⟨fun it hi k hk hit => ?_, h1.ap⟩, h1.lo, h1.hb⟩
  · rcases List.mem_cons.1 hi with rfl | hi
    · exact hn
    · exact h1.ok it hi
  · have := hf k hk
    have := (it.has (h.ok it hi) k hit).2
    omega
theorem Sep.tail (h : Sep w0 B (i :: r) W) : Sep w0 B r W := ⟨fun it hi => h.ok it (List.mem_cons_of_mem _ hi), (List.pairwise_cons.1 h.ap).2, h.lo, h.hb⟩
theorem Sep.p0 (h : Sep w0 B (a :: r) W) : a.P W := h.ok a (by simp)
theorem Sep.p1 (h : Sep w0 B (a :: b :: r) W) : b.P W := h.ok b (by simp)
theorem Sep.p2 (h : Sep w0 B (a :: b :: c :: r) W) : c.P W := h.ok c (by simp)
theorem Sep.p3 (h : Sep w0 B (a :: b :: c :: d :: r) W) : d.P W := h.ok d (by simp)
/-- A block as a thing. -/
def blkI (B b : Nat) (hB : B ≤ b) (o : Obj) : Thing B where
  F := fun k => k = b
  P := fun W => W.heap[b]? = some o
  has := fun h k hk => ⟨by rw [hk]; exact hB, by rw [hk]; exact blk_lt h⟩
  st := fun h ho hn => ho.heap h (hn b rfl)
theorem Sep.alloc (h : Sep w0 B its W) (o : Obj) : Sep w0 B (blkI B W.heap.size h.hb o :: its) (W.alloc o) :=
  h.add (below_new W o) (blk_new W o) (fun k hk => by rw [show k = W.heap.size from hk]; exact Nat.le_refl _)
theorem Sep.allocz (h : Sep w0 B its W) (hz : B ≤ W.heap.size) (o : Obj) : Sep w0 B (blkI B W.heap.size hz o :: its) (W.alloc o) := h.alloc o
end
end Go.Proofs.YtojdaifnljghkabGreatDoor.M
namespace Go.Proofs.YtojdaifnljghkabGreatDoor.M

def sldS (q : Int) (s : Sg) : Int := sldE q s.nm s.v s.cd s.p s.a
def newS (s t : Sg) : Int := newE s.nm s.v s.cd t.nm t.v t.cd
/-- May an update be done? -/
def updE (root : Int) (l : List (Int × Int × Int)) (f : ByteArray → Int) (now next : Sg) : Int :=
  if lastC root l = 0 then (if sldS (lastV root l) next = 0 then (if newS next now = 0 then (if now.v < next.v then mayE f next.nm next.v else 9) else newS next now) else sldS (lastV root l) next) else lastC root l
def safeS (t : St) : Sg := (t.at (safeT t)).s
def doE (root : Int) (l : List (Int × Int × Int)) (f : ByteArray → Int) (t : St) (next : Sg) : Int := if updE root l f (safeS t) next = 0 then putE t next else updE root l f (safeS t) next
def doT (root : Int) (l : List (Int × Int × Int)) (f : ByteArray → Int) (t : St) (next : Sg) : St := if updE root l f (safeS t) next = 0 then putT t next else t
section
variable {root : Int} {l : List (Int × Int × Int)} {f : ByteArray → Int} {now next s : Sg} {t : St} {q : Int}
theorem upd_last (h : ¬ lastC root l = 0) : updE root l f now next = lastC root l := if_neg h
theorem upd_sld (h : lastC root l = 0) (h2 : ¬ sldS (lastV root l) next = 0) : updE root l f now next = sldS (lastV root l) next := by unfold updE; rw [if_pos h, if_neg h2]
theorem upd_new (h : lastC root l = 0) (h2 : sldS (lastV root l) next = 0) (h3 : ¬ newS next now = 0) : updE root l f now next = newS next now := by unfold updE; rw [if_pos h, if_pos h2, if_neg h3]
theorem upd_old (h : lastC root l = 0) (h2 : sldS (lastV root l) next = 0) (h3 : newS next now = 0) (h4 : ¬ now.v < next.v) : updE root l f now next = 9 := by unfold updE; rw [if_pos h, if_pos h2, if_pos h3, if_neg h4]
theorem upd_may (h : lastC root l = 0) (h2 : sldS (lastV root l) next = 0) (h3 : newS next now = 0) (h4 : now.v < next.v) : updE root l f now next = mayE f next.nm next.v := by unfold updE; rw [if_pos h, if_pos h2, if_pos h3, if_pos h4]
theorem sld_img (h : sldS q s = 0) : sgE s = 0 := by
  by_cases h0 : imgE s.nm s.v s.cd = 0
  · exact h0
  · unfold sldS at h; rw [sldE_img h0] at h; exact absurd h h0
theorem upd_zero (h : updE root l f now next = 0) : lastC root l = 0 ∧ sldS (lastV root l) next = 0 ∧ newS next now = 0 ∧ now.v < next.v ∧ mayE f next.nm next.v = 0 := by
  by_cases h1 : lastC root l = 0
  · by_cases h2 : sldS (lastV root l) next = 0
    · by_cases h3 : newS next now = 0
      · by_cases h4 : now.v < next.v
        · rw [upd_may h1 h2 h3 h4] at h; exact ⟨h1, h2, h3, h4, h⟩
        · rw [upd_old h1 h2 h3 h4] at h; cases h
      · rw [upd_new h1 h2 h3] at h; exact absurd h h3
    · rw [upd_sld h1 h2] at h; exact absurd h h2
  · rw [upd_last h1] at h; exact absurd h h1
/-- What the reference asks of two images, once the one is right. -/
theorem new_img (h : sgE next = 0) (h2 : ¬ sgE now = 0) : newS next now = sgE now := by
  unfold newS newE; unfold sgE at h h2 ⊢; rw [if_pos h, if_neg h2]
theorem new_name (h : sgE next = 0) (h2 : sgE now = 0) (h3 : ¬ next.nm = now.nm) : newS next now = 3 := by
  unfold newS newE; unfold sgE at h h2; rw [if_pos h, if_pos h2, if_neg h3]
theorem new_ok (h : sgE next = 0) (h2 : sgE now = 0) (h3 : next.nm = now.nm) : newS next now = 0 := by
  unfold newS newE; unfold sgE at h h2; rw [if_pos h, if_pos h2, if_pos h3]
theorem new_zero (h : newS next now = 0) : sgE next = 0 ∧ sgE now = 0 ∧ next.nm = now.nm := by
  by_cases h1 : sgE next = 0
  · by_cases h2 : sgE now = 0
    · by_cases h3 : next.nm = now.nm
      · exact ⟨h1, h2, h3⟩
      · rw [new_name h1 h2 h3] at h; cases h
    · rw [new_img h1 h2] at h; exact absurd h h2
  · unfold newS newE at h; unfold sgE at h1; rw [if_neg h1] at h; exact absurd h h1
/-- The same is not newer. -/
theorem upd_same (h : lastC root l = 0) (h2 : sldS (lastV root l) s = 0) : updE root l f s s = 9 :=
  upd_old h h2 (new_ok (sld_img h2) (sld_img h2) rfl) (by omega)
theorem do_no (h : ¬ updE root l f (safeS t) next = 0) : doE root l f t next = updE root l f (safeS t) next ∧ doT root l f t next = t := ⟨if_neg h, if_neg h⟩
theorem do_ok (h : updE root l f (safeS t) next = 0) : doE root l f t next = putE t next ∧ doT root l f t next = putT t next := ⟨if_pos h, if_pos h⟩
theorem may_zero {nm : ByteArray} {v : Int} (h : mayE f nm v = 0) : nameB nm = true ∧ 1 ≤ v ∧ v ≤ 1000 ∧ f nm ≤ v := by
  unfold mayE at h
  by_cases h1 : nameB nm = true
  · rw [if_pos h1] at h
    by_cases h2 : 1 ≤ v ∧ v ≤ 1000
    · rw [if_pos h2] at h
      by_cases h3 : v < f nm
      · rw [if_pos h3] at h; cases h
      · exact ⟨h1, h2.1, h2.2, by omega⟩
    · rw [if_neg h2] at h; cases h
  · rw [if_neg h1] at h; cases h
/-- An update of a first image, started, and good; and once more. -/
def onT (now next : Sg) : St := ⟨⟨now, true, 0, true⟩, ⟨next, true, 3, false⟩, false⟩
def upT (now next : Sg) : St := ⟨⟨now, true, 0, true⟩, ⟨next, true, 2, false⟩, true⟩
def inT (next : Sg) : St := ⟨noSl, ⟨next, true, 0, true⟩, true⟩
theorem first_do (h : updE root l f now next = 0) : doE root l f (newT now) next = 0 ∧ doT root l f (newT now) next = onT now next := by
  have h1 : updE root l f (safeS (newT now)) next = 0 := h
  have h2 := sld_img (upd_zero h).2.1
  have h3 : putE (newT now) next = 0 := by unfold putE; rw [if_pos h2]; rfl
  rw [(do_ok h1).1, (do_ok h1).2]
  exact ⟨h3, by unfold putT; rw [if_pos h3]; rfl⟩
theorem first_start : pickT (onT now next) = true ∧ startT (onT now next) = upT now next := ⟨by rfl, by rfl⟩
theorem first_good : goodE (upT now next) = 0 ∧ goodT (upT now next) = inT next := ⟨by rfl, by rfl⟩
theorem first_again (h : updE root l f now next = 0) : doE root l f (inT next) next = 9 := by
  obtain ⟨h1, h2, _⟩ := upd_zero h
  have h3 : updE root l f (safeS (inT next)) next = 9 := upd_same h1 h2
  rw [(do_no (by rw [h3]; decide)).1, h3]
/-- Two that one signed, the second newer. -/
def sgO (x k : Int) (nm : ByteArray) (v : Int) (cd : ByteArray) : Sg := ⟨nm, v, cd, sigP x k (meaV nm v cd), sigA x k (meaV nm v cd)⟩
theorem own_sld {x k v : Int} {nm cd : ByteArray} (h : sgnE x k nm v cd = 0) : sldS (pwZ 64 x) (sgO x k nm v cd) = 0 := sld_own h
end
end Go.Proofs.YtojdaifnljghkabGreatDoor.M
namespace Go.Proofs.YtojdaifnljghkabGreatDoor.M
/-- What both slots hold can be read whole. -/
def szT (t : St) : Prop := szS t.x.s ∧ szS t.y.s
theorem szT.at {t : St} (h : szT t) (i : Bool) : szS (t.at i).s := match i with | false => h.1 | true => h.2
theorem szS_none : szS noSg := ⟨by decide, by decide⟩
theorem szT.new {s : Sg} (h : szS s) : szT (newT s) := ⟨h, szS_none⟩
theorem szT.put {t : St} (h : szT t) (i : Bool) {l : Sl} (hl : szS l.s) : szT (t.put i l) := match i with | false => ⟨hl, h.2⟩ | true => ⟨h.1, hl⟩
theorem szT.run {t : St} (h : szT t) (i : Bool) : szT (runT t i) := h
theorem szT.putT {t : St} (h : szT t) {s : Sg} (hs : szS s) : szT (putT t s) := by
  unfold M.putT
  split
  · exact h.put _ hs
  · exact h
theorem szT.good {t : St} (h : szT t) : szT (goodT t) := by
  unfold goodT
  split
  · exact h
  · exact (h.put t.r (l := { (t.at t.r) with good := true, tries := 0 }) (h.at t.r)).put _ szS_none
theorem lessL_s (l : Sl) : (lessL l).s = l.s := by unfold lessL; split <;> rfl
theorem szT.start {t : St} (h : szT t) : szT (startT t) := by
  unfold startT
  exact (h.run _).put _ (by rw [lessL_s]; exact h.at _)
theorem szT.doT {root : Int} {l : List (Int × Int × Int)} {f : ByteArray → Int} {t : St} (h : szT t) {s : Sg} (hs : szS s) : szT (M.doT root l f t s) := by
  unfold M.doT
  split
  · exact h.putT hs
  · exact h
end Go.Proofs.YtojdaifnljghkabGreatDoor.M
namespace Go.Proofs.YtojdaifnljghkabGreatDoor.Update
open Go.ChangeShapes Go.WideShapes Go.ChangeAt Go.RowKit
open Go.Proofs.YtojdaifnljghkabGreatDoor.M
set_option linter.unusedVariables false

def MayLaw (Cnt : World → Nat → Value → (Nat → Prop) → (ByteArray → Int) → Nat → Prop) : Prop :=
  ∀ (root : Int) (a : Option Addr) (l : List (Int × Int × Int)) (n cap : Nat) (p : Value) (S : Nat → Prop) (f : ByteArray → Int) (k : Nat) (now next : Sg) (w : World) (B : Nat), n = l.length → n ≤ maxLen → RRow 3 certV w a l → Image.Has w → Cnt w B p S f k → szS now → szS next →
    Calls Tryz.prog 95 #[.int .i64 root, .slice a n cap, p, sgA now, sgA next] w fun e w' => e = .returned (errV 96 (updE root l f now next)) ∧ Below w.heap.size w w'
def DoLaw (Cnt : World → Nat → Value → (Nat → Prop) → (ByteArray → Int) → Nat → Prop) (Slt : World → Nat → Value → (Nat → Prop) → St → Prop) : Prop :=
  ∀ (root : Int) (a : Option Addr) (l : List (Int × Int × Int)) (n cap : Nat) (p : Value) (S : Nat → Prop) (f : ByteArray → Int) (k : Nat) (q : Value) (T : Nat → Prop) (t : St) (next : Sg) (w : World) (B : Nat), n = l.length → n ≤ maxLen → RRow 3 certV w a l → Image.Has w →
    Cnt w B p S f k → Slt w B q T t → szT t → szS next → B ≤ w.heap.size →
    Calls Tryz.prog 57 #[.int .i64 root, .slice a n cap, p, q, sgA next] w fun e w' => ∃ T', e = .returned (errV 96 (doE root l f t next)) ∧ Slt w' B q T' (doT root l f t next) ∧ Only T w w' ∧ (∀ b, T' b → T b ∨ w.heap.size ≤ b)
end Go.Proofs.YtojdaifnljghkabGreatDoor.Update
namespace Go.Proofs.YtojdaifnljghkabGreatDoor.OpenI
open Go.ChangeShapes Go.WideShapes Go.ChangeAt Go.RowKit
open Go.Proofs.YtojdaifnljghkabGreatDoor.M

theorem image {H : Type} {enc : TypeId × Value → H} {P : Program} {W : World} {b0 base : Nat} {sp : Nat → Bool} {hd : Bool} {t : TypeId} {f0 f1 f2 : Field} {v : Value} {d : DataW H} {ps : List MemPlace}
    (hu : P.underlying t = some (.struct #[f0, f1, f2])) (h0 : P.underlying f0.type = some .string) (h1 : P.underlying f1.type = some (.int .i64)) (h2 : P.underlying f2.type = some .string)
    (o0 : f0.offset = 0) (o1 : f1.offset = 1) (o2 : f2.offset = 2) (c0 : P.cellsOf f0.type = 1) (c1 : P.cellsOf f1.type = 1) (c2 : P.cellsOf f2.type = 1) (ct : P.cellsOf t = 3)
    (hv : Value.okWide P W .any base t v) (h : DataW.Trod enc P W b0 sp hd t v d ps) :
    ∃ (nm cd : ByteArray) (z : Int), v = .agg (imgC nm z cd) ∧ d = .agg [.lit (.string nm.data.toList), .lit (.int .i64 z), .lit (.string cd.data.toList)] := by
  obtain ⟨cs, rfl, hsz, _⟩ : ∃ cs, v = .agg cs ∧ cs.size = P.cellsOf t ∧ Row.okWide P W .any base t cs := by
    simpa [Value.okWide, hu] using hv
  rw [ct] at hsz
  obtain ⟨fuel, hf⟩ := h
  obtain ⟨xs, m, _, hx, _, hl, hy⟩ := DataW.trod_struct hu hf
  have hl3 : xs.length = 3 := hl
  obtain ⟨x0, x1, x2, rfl⟩ : ∃ x0 x1 x2, xs = [x0, x1, x2] := by
    match xs, hl3 with
    | [x0, x1, x2], _ => exact ⟨x0, x1, x2, rfl⟩
  have g0 := hy 0 f0 rfl
  have g1 := hy 1 f1 rfl
  have g2 := hy 2 f2 rfl
  rw [o0, c0] at g0
  rw [o1, c1] at g1
  rw [o2, c2] at g2
  obtain ⟨nm, e0, rfl, _⟩ := DataW.trod_string h0 g0
  obtain ⟨z, e1, rfl, _⟩ := DataW.trod_int h1 g1
  obtain ⟨cd, e2, rfl, _⟩ := DataW.trod_string h2 g2
  refine ⟨nm, cd, z, ?_, ?_⟩
  · congr 1
    apply Array.ext'
    have hcs : (Value.agg cs).cells.toList = cs.toList := rfl
    rw [hcs] at e0 e1 e2
    have hlen : cs.toList.length = 3 := by simpa using hsz
    generalize cs.toList = l at e0 e1 e2 hlen
    match l, hlen with
    | [a, b, c], _ =>
      simp at e0 e1 e2
      rw [e0, e1, e2]
      rfl
  · have := congrArg (fun q => q.1) hx
    simpa using this

theorem sized {H : Type} {P : Program} {ts : List TypeId} {ds : List (DataW H)} {j : Nat} {t : TypeId} {fs : Array Field} {a c : List UInt8} {z : Int} {t0 t1 t2 : TypeId}
    (h : (DataW.weightsEach P ts ds).all (· ≤ reachBytes) = true) (ht : ts[j]? = some t) (hu : P.underlying t = some (.struct fs)) (hfs : fs.toList.map (·.type) = [t0, t1, t2])
    (hd : ds[j]? = some (.agg [.lit (.string a), .lit (.int .i64 z), .lit (.string c)])) : a.length ≤ 140737488351232 ∧ c.length ≤ 140737488351232 := by
  have key : ∀ k, k ∈ DataW.weights (H := H) P t (.agg [.lit (.string a), .lit (.int .i64 z), .lit (.string c)]) → k ≤ reachBytes := fun k hk => by
    have := List.all_eq_true.1 h _ (DataW.weights_mem_each ht hd k hk)
    simpa using this
  have hw : DataW.weights (H := H) P t (.agg [.lit (.string a), .lit (.int .i64 z), .lit (.string c)]) = [a.length, c.length] := by
    simp [DataW.weights, hu, hfs, DataW.weightsEach]
  rw [hw] at key
  have e : reachBytes = 140737488351232 := by decide
  rw [e] at key
  exact ⟨key _ (by simp), key _ (by simp)⟩

/-- The cells of a listed table. -/
def val1 : DataW Unit → List Value
  | .lit (.int k z) => [.int k z]
  | _ => []
def val2 : DataW Unit → Array Value
  | .agg ps => (ps.flatMap fun d => match d with | .agg qs => qs.flatMap val1 | d => val1 d).toArray
  | _ => #[]

/-- A world in which variables hold what is listed. -/
def put (cs : Array Value) : Obj → Obj
  | .cells _ t frozen => .cells cs t frozen
  | o => o
def lay (w : World) (l : List (Nat × Array Value)) : World := { w with heap := l.foldl (fun h x => h.modify x.1 (put x.2)) w.heap }
theorem pow_tab : Rows.laid_internal_strconv_uint64pow10 = Lib.tabData (H := Unit) .u64 Lib.pow10Tab := by kernel_rfl
/-- The same where the table alone is listed. -/
theorem has_of {W : World} {nT : String} {r : List (String × DataW Unit)} (hT : Tryz.prog.globalNamed nT = some 1)
    (h3 : laidMet Tryz.prog ((nT, Rows.laid_internal_strconv_uint64pow10) :: r) W) : Image.Has W := by
  rw [pow_tab] at h3
  have tb := Lib.tabIs_of_head (t := 232) (e := 225) hT (by kernel_rfl) (n := 20) Tryz.underlying232 Tryz.underlying225 (by kernel_rfl) (by kernel_rfl) h3
  refine ⟨⟨?_, fun nm hg => ?_⟩, trivial⟩
  · exact World.block_lt_of_cell? W ⟨1, 0, none⟩ (tb.cell hT 0 (by decide))
  · unfold Lib.TabIs at tb
    rw [← tb]
    unfold World.var?
    rw [hg, hT]
end Go.Proofs.YtojdaifnljghkabGreatDoor.OpenI
namespace Go.Proofs.YtojdaifnljghkabGreatDoor.OpenL
open Go.ChangeShapes Go.WideShapes Go.ChangeAt Go.RowKit
open Go.Proofs.YtojdaifnljghkabGreatDoor.M
set_option linter.unusedVariables false

theorem all_mem {H : Type} {P : Program} {e : TypeId} {x : DataW H} : ∀ {es : List (DataW H)}, x ∈ es → ∀ k ∈ x.weights P e, k ∈ DataW.weightsAll P e es
  | [], h, _, _ => by cases h
  | y :: r, h, k, hk => by
    unfold DataW.weightsAll
    rcases List.mem_cons.1 h with rfl | h
    · exact List.mem_append_left _ hk
    · exact List.mem_append_right _ (all_mem h k hk)
/-- A slice of records: each record's reading, and that what it weighs is of what the slice weighs. -/
theorem recsW {α : Type} {H : Type} {Q : α → DataW H → Prop} {n : Nat} {cv : α → List Value} {enc : TypeId × Value → H} {P : Program} {W : World} {b0 : Nat} {sp : Nat → Bool} {hd : Bool} {t e : TypeId} {a : Option Addr} {len cap : Nat} {d : DataW H} {ps : List MemPlace}
    (hu : P.underlying t = some (.slice e)) (hce : P.cellsOf e = n) (hn : 0 < n) (hel : ∀ (fuel : Nat) (cs : List Value) (x : DataW H × List MemPlace), DataW.trod enc P W b0 sp hd fuel e cs = some x → ∃ r : α, cs = cv r ∧ Q r x.1)
    (h : DataW.Trod enc P W b0 sp hd t (.slice a len cap) d ps) :
    ∃ xs : List α, len = xs.length ∧ len ≤ maxLen ∧ (a = none → cap = 0) ∧ RRow n cv W a xs ∧ ∀ r ∈ xs, ∃ y, Q r y ∧ ∀ k ∈ y.weights P e, k ∈ d.weights P t := by
  obtain ⟨fuel, hf⟩ := h
  rcases DataW.trod_slice hu hf with ⟨hcs, _⟩ | ⟨x, l, c, elems, rest, m, _, hcs, hx, hb, hlc, hm, hlen, hat, _, _⟩
  · simp [Value.cells] at hcs
    obtain ⟨rfl, rfl, rfl⟩ := hcs
    exact ⟨[], rfl, by unfold maxLen; omega, fun _ => rfl, Or.inl rfl, fun r h => by simp at h⟩
  · simp [Value.cells] at hcs
    obtain ⟨rfl, rfl, rfl⟩ := hcs
    rw [hce] at hat
    have hdd : d = .slice (elems.map (·.1)) (rest.map (·.1)) := congrArg (fun q => q.1) hx
    have hwt : ∀ y ∈ elems, ∀ k ∈ y.1.weights P e, k ∈ d.weights P t := fun y hy k hk => by
      rw [hdd]
      unfold DataW.weights
      rw [hu]
      exact List.mem_cons_of_mem _ (List.mem_append_left _ (all_mem (List.mem_map_of_mem hy) k hk))
    have hex : ∀ i, i < len → ∃ r : α, W.cells? b0 (x.add (i * n)) n = some (cv r) ∧ ∃ y, Q r y ∧ ∀ k ∈ y.weights P e, k ∈ d.weights P t := by
      intro i hi
      have h1 := hat i hi
      rw [List.getElem?_eq_getElem (by omega), Option.bind_eq_some_iff] at h1
      obtain ⟨cs, h2, h3⟩ := h1
      obtain ⟨r, rfl, hq⟩ := hel _ _ _ h3
      exact ⟨r, h2, _, hq, hwt _ (List.getElem_mem ..)⟩
    have hls : ∀ k, k ≤ len → ∃ xs : List α, xs.length = k ∧ ∀ (i : Nat) (r : α), xs[i]? = some r → W.cells? b0 (x.add (i * n)) n = some (cv r) ∧ ∃ y, Q r y ∧ ∀ k ∈ y.weights P e, k ∈ d.weights P t := by
      intro k
      induction k with
      | zero => exact fun _ => ⟨[], rfl, fun i r h => by simp at h⟩
      | succ k ih =>
        intro hk
        obtain ⟨xs, h1, h2⟩ := ih (by omega)
        obtain ⟨r, hr⟩ := hex k (by omega)
        refine ⟨xs ++ [r], by simp [h1], fun i q hq => ?_⟩
        by_cases hi : i < xs.length
        · rw [List.getElem?_append_left hi] at hq; exact h2 i q hq
        · rw [List.getElem?_append_right (by omega)] at hq
          by_cases he : i - xs.length = 0
          · rw [he] at hq
            simp at hq
            subst hq
            rw [show i = k by omega]
            exact hr
          · rw [List.getElem?_eq_none (by simp; omega)] at hq
            cases hq
    obtain ⟨xs, hx1, hx2⟩ := hls len (Nat.le_refl _)
    have hspot : 0 < len → x.spot = none := by
      intro h0
      obtain ⟨r, hr, _⟩ := hex 0 h0
      have hc := World.cells?_some hr
      have h1 := hc.2.2 0 hn
      have hlt : 0 < (cv r).length := by have := hc.2.1; omega
      rw [List.getElem?_eq_getElem hlt] at h1
      have h2 := World.cell?_spot h1
      obtain ⟨bb, oo, ss⟩ := x
      cases ss with
      | none => rfl
      | some q => simp [Addr.add] at h2
    refine ⟨xs, hx1.symm, by omega, fun hno => (by cases hno), ?_, fun r hr => (by obtain ⟨i, hi⟩ := List.getElem?_of_mem hr; exact (hx2 i r hi).2)⟩
    by_cases h0 : len = 0
    · exact Or.inl (List.length_eq_zero_iff.1 (by omega))
    · obtain ⟨b, off, spot⟩ := x
      have hs : spot = none := hspot (by omega)
      subst hs
      refine Or.inr ⟨b, off, rfl, fun k r hr j v hv => ?_⟩
      have hc := World.cells?_some (hx2 k r hr).1
      have hj : j < n := by have := (List.getElem?_eq_some_iff.1 hv).1; have := hc.2.1; omega
      have h1 := hc.2.2 j hj
      rw [add_none, add_none, hv] at h1
      exact h1
theorem reach {H : Type} {P : Program} {ts : List TypeId} {ds : List (DataW H)} {j : Nat} {t : TypeId} {d : DataW H} (h : (DataW.weightsEach P ts ds).all (· ≤ reachBytes) = true) (ht : ts[j]? = some t) (hd : ds[j]? = some d) : ∀ k ∈ d.weights P t, k ≤ 140737488351232 := fun k hk => by
  have h1 := List.all_eq_true.1 h _ (DataW.weights_mem_each ht hd k hk)
  have e : reachBytes = 140737488351232 := by decide
  rw [e] at h1
  simpa using h1

def strV (s : ByteArray) : List Value := [.string s]
def intV (x : Int) : List Value := [.int .i64 x]
theorem strings {H : Type} {enc : TypeId × Value → H} {P : Program} {W : World} {b0 : Nat} {sp : Nat → Bool} {hd : Bool} {t e : TypeId} {a : Option Addr} {len cap : Nat} {d : DataW H} {ps : List MemPlace} {ts : List TypeId} {ds : List (DataW H)} {j : Nat}
    (hu : P.underlying t = some (.slice e)) (he : P.underlying e = some .string) (hce : P.cellsOf e = 1) (hsz : (DataW.weightsEach P ts ds).all (· ≤ reachBytes) = true) (ht : ts[j]? = some t) (hdj : ds[j]? = some d)
    (h : DataW.Trod enc P W b0 sp hd t (.slice a len cap) d ps) :
    ∃ xs : List ByteArray, len = xs.length ∧ len ≤ maxLen ∧ (a = none → cap = 0) ∧ RRow 1 strV W a xs ∧ ∀ s ∈ xs, s.size ≤ 140737488351232 := by
  obtain ⟨xs, h1, h2, h3, h4, h5⟩ := recsW (α := ByteArray) (Q := fun s y => y = .lit (.string s.data.toList)) (cv := strV) hu hce (by omega) (fun f cs x hx => by
    obtain ⟨s, e1, e2, _⟩ := DataW.trod_string he hx
    exact ⟨s, e1, by rw [e2]⟩) h
  refine ⟨xs, h1, h2, h3, h4, fun s hs => ?_⟩
  obtain ⟨y, rfl, hw⟩ := h5 s hs
  have := reach hsz ht hdj _ (hw s.data.toList.length (by simp [DataW.weights]))
  simpa using this
theorem ints {H : Type} {enc : TypeId × Value → H} {P : Program} {W : World} {b0 : Nat} {sp : Nat → Bool} {hd : Bool} {t e : TypeId} {a : Option Addr} {len cap : Nat} {d : DataW H} {ps : List MemPlace}
    (hu : P.underlying t = some (.slice e)) (he : P.underlying e = some (.int .i64)) (hce : P.cellsOf e = 1) (h : DataW.Trod enc P W b0 sp hd t (.slice a len cap) d ps) :
    ∃ xs : List Int, len = xs.length ∧ len ≤ maxLen ∧ (a = none → cap = 0) ∧ Row W a xs ∧ ∀ x ∈ xs, -9223372036854775808 ≤ x ∧ x ≤ 9223372036854775807 := by
  obtain ⟨xs, h1, h2, h3, h4, h5⟩ := recsW (α := Int) (Q := fun z y => (Lit.int .i64 z).wf = true) (cv := intV) hu hce (by omega) (fun f cs x hx => by
    obtain ⟨z, e1, e2, e3⟩ := DataW.trod_int he hx
    exact ⟨z, e1, e3⟩) h
  refine ⟨xs, h1, h2, h3, ?_, fun z hz => ?_⟩
  · rcases h4 with h | ⟨b, off, ha, hc⟩
    · exact Or.inl h
    · refine Or.inr ⟨b, off, ha, fun k x hx => ?_⟩
      have := hc k x hx 0 _ rfl
      simpa only [Nat.mul_one, Nat.add_zero] using this
  · obtain ⟨y, hw, _⟩ := h5 z hz
    unfold Lit.wf at hw
    rw [Bool.and_eq_true, decide_eq_true_iff, decide_eq_true_iff] at hw
    exact ⟨hw.1, hw.2⟩
theorem readG {H : Type} {enc : TypeId × Value → H} {P : Program} {W : World} {b0 : Nat} {sp : Nat → Bool} {hd : Bool} {t : TypeId} {f0 f1 g0 g1 g2 k0 k1 : Field}
    (hu : P.underlying t = some (.struct #[f0, f1])) (hi : P.underlying f0.type = some (.struct #[g0, g1, g2])) (hs : P.underlying f1.type = some (.struct #[k0, k1]))
    (h0 : P.underlying g0.type = some .string) (h1 : P.underlying g1.type = some (.int .i64)) (h2 : P.underlying g2.type = some .string) (h3 : P.underlying k0.type = some (.int .i64)) (h4 : P.underlying k1.type = some (.int .i64))
    (o0 : f0.offset = 0) (o1 : f1.offset = 3) (p0 : g0.offset = 0) (p1 : g1.offset = 1) (p2 : g2.offset = 2) (p3 : k0.offset = 0) (p4 : k1.offset = 1)
    (c0 : P.cellsOf f0.type = 3) (c1 : P.cellsOf f1.type = 2) (e0 : P.cellsOf g0.type = 1) (e1 : P.cellsOf g1.type = 1) (e2 : P.cellsOf g2.type = 1) (e3 : P.cellsOf k0.type = 1) (e4 : P.cellsOf k1.type = 1) (ct : P.cellsOf t = 5)
    (fuel : Nat) (cs : List Value) (x : DataW H × List MemPlace) (h : DataW.trod enc P W b0 sp hd fuel t cs = some x) :
    ∃ s : Sg, cs = sgV s ∧ x.1 = .agg [.agg [.lit (.string s.nm.data.toList), .lit (.int .i64 s.v), .lit (.string s.cd.data.toList)], .agg [.lit (.int .i64 s.p), .lit (.int .i64 s.a)]] := by
  obtain ⟨xs, m, _, hx, hlen, hl, hy⟩ := DataW.trod_struct hu h
  have hl2 : xs.length = 2 := hl
  obtain ⟨x0, x1, rfl⟩ : ∃ x0 x1, xs = [x0, x1] := by
    match xs, hl2 with
    | [x0, x1], _ => exact ⟨x0, x1, rfl⟩
  have q0 := hy 0 f0 rfl
  have q1 := hy 1 f1 rfl
  rw [o0, c0] at q0
  rw [o1, c1] at q1
  rw [ct] at hlen
  obtain ⟨ys, m1, _, hyx, _, hl3, hz⟩ := DataW.trod_struct hi q0
  obtain ⟨zs, m2, _, hzx, _, hl4, hw⟩ := DataW.trod_struct hs q1
  have hl3' : ys.length = 3 := hl3
  have hl4' : zs.length = 2 := hl4
  obtain ⟨y0, y1, y2, rfl⟩ : ∃ y0 y1 y2, ys = [y0, y1, y2] := by
    match ys, hl3' with
    | [y0, y1, y2], _ => exact ⟨y0, y1, y2, rfl⟩
  obtain ⟨z0, z1, rfl⟩ : ∃ z0 z1, zs = [z0, z1] := by
    match zs, hl4' with
    | [z0, z1], _ => exact ⟨z0, z1, rfl⟩
  have r0 := hz 0 g0 rfl
  have r1 := hz 1 g1 rfl
  have r2 := hz 2 g2 rfl
  have r3 := hw 0 k0 rfl
  have r4 := hw 1 k1 rfl
  rw [p0, e0] at r0
  rw [p1, e1] at r1
  rw [p2, e2] at r2
  rw [p3, e3] at r3
  rw [p4, e4] at r4
  obtain ⟨nm, n0, rfl, _⟩ := DataW.trod_string h0 r0
  obtain ⟨z, n1, rfl, _⟩ := DataW.trod_int h1 r1
  obtain ⟨cd, n2, rfl, _⟩ := DataW.trod_string h2 r2
  obtain ⟨p, n3, rfl, _⟩ := DataW.trod_int h3 r3
  obtain ⟨a, n4, rfl, _⟩ := DataW.trod_int h4 r4
  refine ⟨⟨nm, z, cd, p, a⟩, ?_, ?_⟩
  · match cs, hlen with
    | [u0, u1, u2, u3, u4], _ =>
      simp at n0 n1 n2 n3 n4
      rw [n0, n1, n2, n3, n4]
      rfl
  · have := congrArg (fun q => q.1) hx
    subst hyx
    subst hzx
    simpa using this
theorem signeds {H : Type} {enc : TypeId × Value → H} {P : Program} {W : World} {b0 : Nat} {sp : Nat → Bool} {hd : Bool} {t e : TypeId} {a : Option Addr} {len cap : Nat} {d : DataW H} {ps : List MemPlace} {ts : List TypeId} {ds : List (DataW H)} {j : Nat} {fs gs ks : Array Field} {t0 t1 u0 u1 u2 v0 v1 : TypeId}
    (hu : P.underlying t = some (.slice e)) (hce : P.cellsOf e = 5) (hel : ∀ (fuel : Nat) (cs : List Value) (x : DataW H × List MemPlace), DataW.trod enc P W b0 sp hd fuel e cs = some x → ∃ s : Sg, cs = sgV s ∧ x.1 = .agg [.agg [.lit (.string s.nm.data.toList), .lit (.int .i64 s.v), .lit (.string s.cd.data.toList)], .agg [.lit (.int .i64 s.p), .lit (.int .i64 s.a)]])
    (hue : P.underlying e = some (.struct fs)) (hfs : fs.toList.map (·.type) = [t0, t1]) (hg : P.underlying t0 = some (.struct gs)) (hgs : gs.toList.map (·.type) = [u0, u1, u2]) (hk : P.underlying t1 = some (.struct ks)) (hks : ks.toList.map (·.type) = [v0, v1])
    (hsz : (DataW.weightsEach P ts ds).all (· ≤ reachBytes) = true) (ht : ts[j]? = some t) (hdj : ds[j]? = some d) (h : DataW.Trod enc P W b0 sp hd t (.slice a len cap) d ps) :
    ∃ xs : List Sg, len = xs.length ∧ len ≤ maxLen ∧ (a = none → cap = 0) ∧ RRow 5 sgV W a xs ∧ ∀ s ∈ xs, s.nm.size ≤ 140737488351232 ∧ s.cd.size ≤ 140737488351232 := by
  obtain ⟨xs, h1, h2, h3, h4, h5⟩ := recsW (α := Sg) (Q := fun s y => y = .agg [.agg [.lit (.string s.nm.data.toList), .lit (.int .i64 s.v), .lit (.string s.cd.data.toList)], .agg [.lit (.int .i64 s.p), .lit (.int .i64 s.a)]]) (cv := sgV) hu hce (by omega) hel h
  refine ⟨xs, h1, h2, h3, h4, fun s hs => ?_⟩
  obtain ⟨y, rfl, hw⟩ := h5 s hs
  have hwt : DataW.weights (H := H) P e (.agg [.agg [.lit (.string s.nm.data.toList), .lit (.int .i64 s.v), .lit (.string s.cd.data.toList)], .agg [.lit (.int .i64 s.p), .lit (.int .i64 s.a)]]) = [s.nm.data.toList.length, s.cd.data.toList.length] := by
    simp [DataW.weights, hue, hfs, hg, hgs, hk, hks, DataW.weightsEach]
  rw [hwt] at hw
  have k1 := reach hsz ht hdj _ (hw s.nm.data.toList.length (by simp))
  have k2 := reach hsz ht hdj _ (hw s.cd.data.toList.length (by simp))
  exact ⟨by simpa using k1, by simpa using k2⟩
theorem signed {H : Type} {enc : TypeId × Value → H} {P : Program} {W : World} {b0 base : Nat} {sp : Nat → Bool} {hd : Bool} {t : TypeId} {v : Value} {d : DataW H} {ps : List MemPlace} {ts : List TypeId} {ds : List (DataW H)} {j : Nat} {fs gs ks : Array Field} {t0 t1 u0 u1 u2 v0 v1 : TypeId}
    (hce : P.cellsOf t = 5) (hel : ∀ (fuel : Nat) (cs : List Value) (x : DataW H × List MemPlace), DataW.trod enc P W b0 sp hd fuel t cs = some x → ∃ s : Sg, cs = sgV s ∧ x.1 = .agg [.agg [.lit (.string s.nm.data.toList), .lit (.int .i64 s.v), .lit (.string s.cd.data.toList)], .agg [.lit (.int .i64 s.p), .lit (.int .i64 s.a)]])
    (hue : P.underlying t = some (.struct fs)) (hfs : fs.toList.map (·.type) = [t0, t1]) (hg : P.underlying t0 = some (.struct gs)) (hgs : gs.toList.map (·.type) = [u0, u1, u2]) (hk : P.underlying t1 = some (.struct ks)) (hks : ks.toList.map (·.type) = [v0, v1])
    (hsz : (DataW.weightsEach P ts ds).all (· ≤ reachBytes) = true) (ht : ts[j]? = some t) (hdj : ds[j]? = some d) (hv : Value.okWide P W .any base t v) (h : DataW.Trod enc P W b0 sp hd t v d ps) :
    ∃ s : Sg, v = .agg (sgV s).toArray ∧ s.nm.size ≤ 140737488351232 ∧ s.cd.size ≤ 140737488351232 := by
  obtain ⟨cs, rfl, hsc, _⟩ : ∃ cs, v = .agg cs ∧ cs.size = P.cellsOf t ∧ Row.okWide P W .any base t cs := by
    simpa [Value.okWide, hue] using hv
  obtain ⟨fuel, hf⟩ := h
  obtain ⟨s, e1, e2⟩ := hel _ _ _ hf
  have hcs : (Value.agg cs).cells.toList = cs.toList := rfl
  rw [hcs] at e1
  refine ⟨s, by rw [← e1], ?_⟩
  have hwt : DataW.weights (H := H) P t d = [s.nm.data.toList.length, s.cd.data.toList.length] := by
    rw [show d = _ from e2]
    simp [DataW.weights, hue, hfs, hg, hgs, hk, hks, DataW.weightsEach]
  have k1 := reach hsz ht hdj s.nm.data.toList.length (by rw [hwt]; simp)
  have k2 := reach hsz ht hdj s.cd.data.toList.length (by rw [hwt]; simp)
  exact ⟨by simpa using k1, by simpa using k2⟩
end Go.Proofs.YtojdaifnljghkabGreatDoor.OpenL
