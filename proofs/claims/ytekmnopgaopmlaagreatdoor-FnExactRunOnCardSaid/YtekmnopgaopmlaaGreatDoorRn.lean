/- What a program answers, in plain words: the machine, its words, its run. No program is read here. -/
import Derived.Test.YtekmnopgaopmlaaGreatDoorOn
import Derived.Test.YtekmnopgaopmlaaGreatDoorWd
import Derived.Test.YtekmnopgaopmlaaGreatDoorLk
import Derived.Test.YtekmnopgaopmlaaGreatDoorPb
set_option maxRecDepth 100000
set_option linter.unusedSimpArgs false
set_option linter.unusedVariables false
namespace Go.Proofs.YtekmnopgaopmlaaGreatDoor
open Go.RowKit

/-- The machine: A, X, its cells, and which were written. -/
structure Mc where
  a : Int
  x : Int
  cells : List Int
  has : List Bool
def mc0 : Mc := ⟨0, 0, List.replicate 16 0, List.replicate 16 false⟩
def w32 (v : Int) : Int := v % 4294967296
def In32 (v : Int) : Prop := 0 ≤ v ∧ v ≤ 4294967295
def Mc.ok (m : Mc) : Prop := In32 m.a ∧ In32 m.x ∧ m.cells.length = 16 ∧ m.has.length = 16 ∧ ∀ v ∈ m.cells, In32 v
theorem w32_in (v : Int) : In32 (w32 v) := by unfold In32 w32; omega
theorem w32_of {v : Int} (h : In32 v) : w32 v = v := by unfold In32 at h; unfold w32; omega

/-- A word at a cell. -/
def cellM (m : Mc) (i : Ins) : Mc × Int :=
  if 15 < i.k then (m, 8)
  else if i.c = 2 then (⟨m.a, m.x, m.cells.set i.k.toNat m.a, m.has.set i.k.toNat true⟩, 0)
  else if i.c = 3 then (⟨m.a, m.x, m.cells.set i.k.toNat m.x, m.has.set i.k.toNat true⟩, 0)
  else if m.has.getD i.k.toNat false = false then (m, 6)
  else if i.c = 96 then (⟨m.cells.getD i.k.toNat 0, m.x, m.cells, m.has⟩, 0)
  else (⟨m.a, m.cells.getD i.k.toNat 0, m.cells, m.has⟩, 0)
/-- What A comes to be by a word that reckons; -1: K may not be. -/
def sumA (c a x k : Int) : Int :=
  if c = 4 then w32 (a + k) else if c = 20 then w32 (a - k) else if c = 36 then w32 (a * k)
  else if c = 52 then (if k = 0 then -1 else w32 (a / k))
  else if c = 68 then w32 (bits .or .i64 a k) else if c = 84 then w32 (bits .and .i64 a k) else if c = 164 then w32 (bits .xor .i64 a k)
  else if c = 12 then w32 (a + x) else if c = 28 then w32 (a - x) else if c = 92 then w32 (bits .and .i64 a x) else if c = 76 then w32 (bits .or .i64 a x)
  else if c = 132 then w32 (-a)
  else if c = 100 then (if 31 < k then -1 else w32 (a * 2 ^ k.toNat))
  else if c = 116 then (if 31 < k then -1 else w32 (a / 2 ^ k.toNat)) else w32 a
def sumM (m : Mc) (i : Ins) : Mc × Int := if sumA i.c m.a m.x i.k < 0 then (m, 8) else (⟨sumA i.c m.a m.x i.k, m.x, m.cells, m.has⟩, 0)
def lookM (m : Mc) (i : Ins) : Bool :=
  if i.c = 21 then m.a == i.k else if i.c = 37 then decide (i.k < m.a) else if i.c = 53 then decide (i.k ≤ m.a) else if i.c = 69 then bits .and .i64 m.a i.k != 0
  else if i.c = 29 then m.a == m.x else if i.c = 45 then decide (m.x < m.a) else if i.c = 61 then decide (m.x ≤ m.a) else bits .and .i64 m.a m.x != 0
def atCell (c : Int) : Bool := c == 96 || c == 97 || c == 2 || c == 3
/-- A word that neither looks nor ends. -/
def doM (b : ByteArray) (m : Mc) (i : Ins) : Mc × Int :=
  if i.c = 32 then (if loadB b i.k < 0 then (m, 8) else (⟨loadB b i.k, m.x, m.cells, m.has⟩, 0))
  else if i.c = 0 then (⟨i.k, m.x, m.cells, m.has⟩, 0) else if i.c = 1 then (⟨m.a, i.k, m.cells, m.has⟩, 0)
  else if i.c = 7 then (⟨m.a, m.a, m.cells, m.has⟩, 0) else if i.c = 135 then (⟨m.x, m.x, m.cells, m.has⟩, 0)
  else if atCell i.c then cellM m i else sumM m i
/-- What is answered: Ret, Steps, Code. -/
structure Ans where
  ret : Int
  steps : Int
  code : Int
def runM (l : List Ins) (b : ByteArray) : Nat → Nat → Mc → Nat → Ans
  | 0, _, _, st => ⟨0, st, 4⟩
  | f + 1, at_, m, st => match l[at_]? with
    | none => ⟨0, st, 4⟩
    | some i => if isOp i.c = false then ⟨0, (st + 1 : Nat), 3⟩
      else if i.c = 6 then ⟨i.k, (st + 1 : Nat), 0⟩
      else if i.c = 22 then ⟨m.a, (st + 1 : Nat), 0⟩
      else if i.c = 5 then runM l b f (at_ + i.k.toNat + 1) m (st + 1)
      else if looksC i.c then runM l b f (at_ + (if lookM m i then i.y else i.n).toNat + 1) m (st + 1)
      else if (doM b m i).2 = 0 then runM l b f (at_ + 1) (doM b m i).1 (st + 1)
      else ⟨0, (st + 1 : Nat), (doM b m i).2⟩
def runL (l : List Ins) (b : ByteArray) : Ans :=
  if 400 < l.length ∨ 8000 < b.size then ⟨0, 0, 2⟩
  else if b.size ≠ 64 ∨ allOk l = false then ⟨0, 0, 1⟩
  else runM l b (l.length + 1) 0 mc0 0

/-! Numbers of 32 bits. -/
theorem i64_and32 (n : Int) : bits .and .i64 n 4294967295 = w32 n := by
  have h127 : (BitVec.ofInt 64 4294967295).toNat = 2 ^ 32 - 1 := by decide
  have key : (BitVec.ofInt 64 n &&& BitVec.ofInt 64 4294967295).toNat = (n % ((2 ^ 64 : Nat) : Int)).toNat % 2 ^ 32 := by
    rw [BitVec.toNat_and, BitVec.toNat_ofInt, h127, Nat.and_two_pow_sub_one_eq_mod]
  show IntKind.i64.wrap ((BitVec.ofInt 64 n &&& BitVec.ofInt 64 4294967295).toNat : Nat) = n % 4294967296
  rw [key, IntKind.wrap_i64]
  omega
theorem w32_wrap (n : Int) : w32 (IntKind.i64.wrap n) = w32 n := by
  rw [IntKind.wrap_i64]
  unfold w32
  omega
end Go.Proofs.YtekmnopgaopmlaaGreatDoor
