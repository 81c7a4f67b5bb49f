/- Texts of one proof, put together: Rn Ra Rx Ry Rs Rd Rv Rl Ru. -/
import Derived.Test.YtekmnopgaopmlaaGreatDoorXa
import Derived.Deep.QuietTactic
import Derived.BigQuiet
import Derived.StillTailTactics
import Derived.Deep.Draws
import Derived.Deep.DeepCutAuto
import Derived.Deep.CutRange
import Derived.Deep.RegionLaw
import Derived.Deep.OwnRows

/- What a program answers, in plain words: the machine, its words, its run. No program is read here. -/
set_option maxRecDepth 100000
set_option linter.unusedSimpArgs false
set_option linter.unusedVariables false
namespace Go.Proofs.YtekmnopgaopmlaaGreatDoor
open Go.RowKit

/-- The machine: A, X, its cells, and which were written. -/
structure Mc where
  a : Int
  x : Int
  cells : List Int
  has : List Bool
def mc0 : Mc := ⟨0, 0, List.replicate 16 0, List.replicate 16 false⟩
def w32 (v : Int) : Int := v % 4294967296
def In32 (v : Int) : Prop := 0 ≤ v ∧ v ≤ 4294967295
def Mc.ok (m : Mc) : Prop := In32 m.a ∧ In32 m.x ∧ m.cells.length = 16 ∧ m.has.length = 16 ∧ ∀ v ∈ m.cells, In32 v
theorem w32_in (v : Int) : In32 (w32 v) := by unfold In32 w32; omega
theorem w32_of {v : Int} (h : In32 v) : w32 v = v := by unfold In32 at h; unfold w32; omega

/-- A word at a cell. -/
def cellM (m : Mc) (i : Ins) : Mc × Int :=
  if 15 < i.k then (m, 8)
  else if i.c = 2 then (⟨m.a, m.x, m.cells.set i.k.toNat m.a, m.has.set i.k.toNat true⟩, 0)
  else if i.c = 3 then (⟨m.a, m.x, m.cells.set i.k.toNat m.x, m.has.set i.k.toNat true⟩, 0)
  else if m.has.getD i.k.toNat false = false then (m, 6)
  else if i.c = 96 then (⟨m.cells.getD i.k.toNat 0, m.x, m.cells, m.has⟩, 0)
  else (⟨m.a, m.cells.getD i.k.toNat 0, m.cells, m.has⟩, 0)
/-- What A comes to be by a word that reckons; -1: K may not be. -/
def sumA (c a x k : Int) : Int :=
  if c = 4 then w32 (a + k) else if c = 20 then w32 (a - k) else if c = 36 then w32 (a * k)
  else if c = 52 then (if k = 0 then -1 else w32 (a / k))
  else if c = 68 then w32 (bits .or .i64 a k) else if c = 84 then w32 (bits .and .i64 a k) else if c = 164 then w32 (bits .xor .i64 a k)
  else if c = 12 then w32 (a + x) else if c = 28 then w32 (a - x) else if c = 92 then w32 (bits .and .i64 a x) else if c = 76 then w32 (bits .or .i64 a x)
  else if c = 132 then w32 (-a)
  else if c = 100 then (if 31 < k then -1 else w32 (a * 2 ^ k.toNat))
  else if c = 116 then (if 31 < k then -1 else w32 (a / 2 ^ k.toNat)) else w32 a
def sumM (m : Mc) (i : Ins) : Mc × Int := if sumA i.c m.a m.x i.k < 0 then (m, 8) else (⟨sumA i.c m.a m.x i.k, m.x, m.cells, m.has⟩, 0)
def lookM (m : Mc) (i : Ins) : Bool :=
  if i.c = 21 then m.a == i.k else if i.c = 37 then decide (i.k < m.a) else if i.c = 53 then decide (i.k ≤ m.a) else if i.c = 69 then bits .and .i64 m.a i.k != 0
  else if i.c = 29 then m.a == m.x else if i.c = 45 then decide (m.x < m.a) else if i.c = 61 then decide (m.x ≤ m.a) else bits .and .i64 m.a m.x != 0
def atCell (c : Int) : Bool := c == 96 || c == 97 || c == 2 || c == 3
/-- A word that neither looks nor ends. -/
def doM (b : ByteArray) (m : Mc) (i : Ins) : Mc × Int :=
  if i.c = 32 then (if loadB b i.k < 0 then (m, 8) else (⟨loadB b i.k, m.x, m.cells, m.has⟩, 0))
  else if i.c = 0 then (⟨i.k, m.x, m.cells, m.has⟩, 0) else if i.c = 1 then (⟨m.a, i.k, m.cells, m.has⟩, 0)
  else if i.c = 7 then (⟨m.a, m.a, m.cells, m.has⟩, 0) else if i.c = 135 then (⟨m.x, m.x, m.cells, m.has⟩, 0)
  else if atCell i.c then cellM m i else sumM m i
/-- What is answered: Ret, Steps, Code. -/
structure Ans where
  ret : Int
  steps : Int
  code : Int
def runM (l : List Ins) (b : ByteArray) : Nat → Nat → Mc → Nat → Ans
  | 0, _, _, st => ⟨0, st, 4⟩
  | f + 1, at_, m, st => match l[at_]? with
    | none => ⟨0, st, 4⟩
    | some i => if isOp i.c = false then ⟨0, (st + 1 : Nat), 3⟩
      else if i.c = 6 then ⟨i.k, (st + 1 : Nat), 0⟩
      else if i.c = 22 then ⟨m.a, (st + 1 : Nat), 0⟩
      else if i.c = 5 then runM l b f (at_ + i.k.toNat + 1) m (st + 1)
      else if looksC i.c then runM l b f (at_ + (if lookM m i then i.y else i.n).toNat + 1) m (st + 1)
      else if (doM b m i).2 = 0 then runM l b f (at_ + 1) (doM b m i).1 (st + 1)
      else ⟨0, (st + 1 : Nat), (doM b m i).2⟩
def runL (l : List Ins) (b : ByteArray) : Ans :=
  if 400 < l.length ∨ 8000 < b.size then ⟨0, 0, 2⟩
  else if b.size ≠ 64 ∨ allOk l = false then ⟨0, 0, 1⟩
  else runM l b (l.length + 1) 0 mc0 0

/-! Numbers of 32 bits. -/
theorem i64_and32 (n : Int) : bits .and .i64 n 4294967295 = w32 n := by
  have h127 : (BitVec.ofInt 64 4294967295).toNat = 2 ^ 32 - 1 := by decide
  have key : (BitVec.ofInt 64 n &&& BitVec.ofInt 64 4294967295).toNat = (n % ((2 ^ 64 : Nat) : Int)).toNat % 2 ^ 32 := by
    rw [BitVec.toNat_and, BitVec.toNat_ofInt, h127, Nat.and_two_pow_sub_one_eq_mod]
  show IntKind.i64.wrap ((BitVec.ofInt 64 n &&& BitVec.ofInt 64 4294967295).toNat : Nat) = n % 4294967296
  rw [key, IntKind.wrap_i64]
  omega
theorem w32_wrap (n : Int) : w32 (IntKind.i64.wrap n) = w32 n := by
  rw [IntKind.wrap_i64]
  unfold w32
  omega
end Go.Proofs.YtekmnopgaopmlaaGreatDoor

/- The machine's memory; its words walked in the model. -/
set_option maxRecDepth 100000
set_option linter.unusedSimpArgs false
set_option linter.unusedVariables false
namespace Go.Proofs.YtekmnopgaopmlaaGreatDoor
open Go.RowKit

/-- The machine lies in three blocks. -/
def MAt (w : World) (M C H : Nat) (m : Mc) : Prop :=
  w.heap[M]? = some (.cells #[.int .i64 m.a, .int .i64 m.x, .slice (some ⟨C, 0, none⟩) 16 16, .slice (some ⟨H, 0, none⟩) 16 16] 130 (0, 0)) ∧
  w.heap[C]? = some (.cells (m.cells.map (Value.int .i64)).toArray 2 (0, 0)) ∧ w.heap[H]? = some (.cells (m.has.map Value.bool).toArray 4 (0, 0)) ∧
  M ≠ C ∧ M ≠ H ∧ C ≠ H
/-- All but the machine's blocks is as it was. -/
structure KeepM (M C H : Nat) (w w' : World) : Prop where
  os : w'.os = w.os
  tape : w'.tape = w.tape
  output : w'.output = w.output
  size : w.heap.size ≤ w'.heap.size
  block : ∀ k, k < w.heap.size → k ≠ M → k ≠ C → k ≠ H → w'.heap[k]? = w.heap[k]?
theorem KeepM.refl (M C H : Nat) (w : World) : KeepM M C H w w := ⟨rfl, rfl, rfl, Nat.le_refl _, fun _ _ _ _ _ => rfl⟩
theorem KeepM.trans {M C H : Nat} {a b c : World} (h : KeepM M C H a b) (k : KeepM M C H b c) : KeepM M C H a c :=
  ⟨k.os.trans h.os, k.tape.trans h.tape, k.output.trans h.output, Nat.le_trans h.size k.size, fun i hi h1 h2 h3 => (k.block i (Nat.lt_of_lt_of_le hi h.size) h1 h2 h3).trans (h.block i hi h1 h2 h3)⟩
theorem KeepM.of {M C H : Nat} {w w' : World} (h : Below w.heap.size w w') : KeepM M C H w w' := ⟨h.os, h.tape, h.output, h.size, fun k hk _ _ _ => h.block k hk⟩
theorem KeepM.set {M C H : Nat} {a w : World} (h : KeepM M C H a w) {p : Addr} (hp : p.block = M ∨ p.block = C ∨ p.block = H) (v : Value) : KeepM M C H a (w.setCell p v) :=
  h.trans ⟨rfl, rfl, rfl, by simp [World.setCell], fun k _ h1 h2 h3 => Below.heap_setCell _ _ _ _ (by rcases hp with e | e | e <;> omega)⟩
theorem KeepM.below {M C H B : Nat} {a w w' : World} (h : Below B a w) (k : KeepM M C H w w') (h1 : B ≤ M) (h2 : B ≤ C) (h3 : B ≤ H) (hB : B ≤ w.heap.size) : Below B a w' :=
  h.trans ⟨k.os, k.tape, k.output, k.size, fun i hi => k.block i (by omega) (by omega) (by omega) (by omega)⟩
theorem MAt.below {w w' : World} {M C H : Nat} {m : Mc} (h : MAt w M C H m) (hb : Below w.heap.size w w') : MAt w' M C H m := by
  obtain ⟨h1, h2, h3, h4⟩ := h
  exact ⟨(hb.block _ (row_here h1)).trans h1, (hb.block _ (row_here h2)).trans h2, (hb.block _ (row_here h3)).trans h3, h4⟩
theorem MAt.setA {w : World} {M C H : Nat} {m : Mc} (h : MAt w M C H m) (v : Int) : MAt (w.setCell ⟨M, 0, none⟩ (.int .i64 v)) M C H ⟨v, m.x, m.cells, m.has⟩ := by
  obtain ⟨h1, h2, h3, h4, h5, h6⟩ := h
  have hr := row_put h1 0 (.int .i64 v)
  simp only [List.setIfInBounds_toArray, List.set_cons_zero, List.set_cons_succ] at hr
  exact ⟨hr, row_other h2 0 _ (Ne.symm h4), row_other h3 0 _ (Ne.symm h5), h4, h5, h6⟩
theorem MAt.setX {w : World} {M C H : Nat} {m : Mc} (h : MAt w M C H m) (v : Int) : MAt (w.setCell ⟨M, 1, none⟩ (.int .i64 v)) M C H ⟨m.a, v, m.cells, m.has⟩ := by
  obtain ⟨h1, h2, h3, h4, h5, h6⟩ := h
  have hr := row_put h1 1 (.int .i64 v)
  simp only [List.setIfInBounds_toArray, List.set_cons_zero, List.set_cons_succ] at hr
  exact ⟨hr, row_other h2 1 _ (Ne.symm h4), row_other h3 1 _ (Ne.symm h5), h4, h5, h6⟩
theorem MAt.cellsM {w : World} {M C H : Nat} {m : Mc} (h : MAt w M C H m) : w.cell? ⟨M, 0, none⟩ = some (.int .i64 m.a) ∧ w.cell? ⟨M, 1, none⟩ = some (.int .i64 m.x) ∧ w.cell? ⟨M, 2, none⟩ = some (.slice (some ⟨C, 0, none⟩) 16 16) ∧ w.cell? ⟨M, 3, none⟩ = some (.slice (some ⟨H, 0, none⟩) 16 16) := by
  have c0 := row_cell h.1 0
  have c1 := row_cell h.1 1
  have c2 := row_cell h.1 2
  have c3 := row_cell h.1 3
  simp only [List.getElem?_toArray, List.getElem?_cons_zero, List.getElem?_cons_succ] at c0 c1 c2 c3
  exact ⟨c0, c1, c2, c3⟩
theorem MAt.free {w : World} {M C H : Nat} {m : Mc} (h : MAt w M C H m) (i : Nat) : w.frozen? ⟨M, i, none⟩ = false ∧ w.frozen? ⟨C, i, none⟩ = false ∧ w.frozen? ⟨H, i, none⟩ = false := ⟨frozen_row h.1 i, frozen_row h.2.1 i, frozen_row h.2.2.1 i⟩
theorem MAt.cell {w : World} {M C H : Nat} {m : Mc} (h : MAt w M C H m) {i : Nat} (hi : i < m.cells.length) : w.cell? ⟨C, i, none⟩ = some (.int .i64 (m.cells.getD i 0)) := by
  rw [row_cell h.2.1 i, List.getD_eq_getElem?_getD, List.getElem?_eq_getElem hi]
  simp [hi]
theorem MAt.hasC {w : World} {M C H : Nat} {m : Mc} (h : MAt w M C H m) {i : Nat} (hi : i < m.has.length) : w.cell? ⟨H, i, none⟩ = some (.bool (m.has.getD i false)) := by
  rw [row_cell h.2.2.1 i, List.getD_eq_getElem?_getD, List.getElem?_eq_getElem hi]
  simp [hi]
theorem MAt.setC {w : World} {M C H : Nat} {m : Mc} (h : MAt w M C H m) (i : Nat) (v : Int) : MAt (w.setCell ⟨C, i, none⟩ (.int .i64 v)) M C H ⟨m.a, m.x, m.cells.set i v, m.has⟩ := by
  obtain ⟨h1, h2, h3, h4, h5, h6⟩ := h
  have hr := row_put h2 i (.int .i64 v)
  rw [List.setIfInBounds_toArray, ← List.map_set] at hr
  exact ⟨row_other h1 i _ h4, hr, row_other h3 i _ (Ne.symm h6), h4, h5, h6⟩
theorem MAt.setH {w : World} {M C H : Nat} {m : Mc} (h : MAt w M C H m) (i : Nat) (v : Bool) : MAt (w.setCell ⟨H, i, none⟩ (.bool v)) M C H ⟨m.a, m.x, m.cells, m.has.set i v⟩ := by
  obtain ⟨h1, h2, h3, h4, h5, h6⟩ := h
  have hr := row_put h3 i (.bool v)
  rw [List.setIfInBounds_toArray, ← List.map_set] at hr
  exact ⟨row_other h1 i _ h5, row_other h2 i _ h6, hr, h4, h5, h6⟩

theorem below_drawn {B : Nat} {a w : World} (h : Below B a w) (n : Nat) : Below B a (w.drewN n) := by
  induction n with
  | zero => exact h
  | succ n ih => exact ih.drew

theorem l05Look_any (m : Mc) (c y n k : Int) (M C H : Nat) (w : World) (h : MAt w M C H m) (hl : looksC c = true) :
    Calls Tryz.prog 85 #[.pointer (some ⟨M, 0, none⟩), .agg #[.int .i64 c, .int .i64 y, .int .i64 n, .int .i64 k]] w fun e w' => e = .returned (.bool (lookM m ⟨c, y, n, k⟩)) ∧ Below w.heap.size w w' := by
  have hb0 := (Below.refl w.heap.size w).alloc (Nat.le_refl _) (.cells #[.int .i64 c, .int .i64 y, .int .i64 n, .int .i64 k] 66)
  obtain ⟨c0, c1, _, _⟩ := (h.below hb0).cellsM
  have HB := Lib.hid hb0
  have hc : c = 21 ∨ c = 37 ∨ c = 53 ∨ c = 69 ∨ c = 29 ∨ c = 45 ∨ c = 61 ∨ c = 77 := by
    unfold looksC at hl
    simpa using hl
  clear h hb0 hl
  obtain ⟨a, x, cs, hs⟩ := m
  simp only at c0 c1
  rcases hc with rfl | rfl | rfl | rfl | rfl | rfl | rfl | rfl
  all_goals
    go_enter Tryz.func85, Tryz.ntmps85
    go_wp2_with fail
    go_quiet (fail)
    go_wp2_with fail
    go_ret
    exact ⟨ret_bool (by simp [lookM]), below_drawn HB.out _⟩

theorem MAt.drew {w : World} {M C H : Nat} {m : Mc} (h : MAt w M C H m) : MAt w.drew M C H m := h
theorem KeepM.drew {M C H : Nat} {a w : World} (h : KeepM M C H a w) : KeepM M C H a w.drew := ⟨h.os, h.tape, h.output, h.size, h.block⟩
theorem sumM_yes {m : Mc} {i : Ins} {v : Int} (h : sumA i.c m.a m.x i.k = w32 v) : sumM m i = (⟨w32 v, m.x, m.cells, m.has⟩, 0) := by
  unfold sumM
  have := (w32_in v).1
  rw [h, if_neg (by omega)]
theorem sumM_no {m : Mc} {i : Ins} (h : sumA i.c m.a m.x i.k = -1) : sumM m i = (m, 8) := by
  unfold sumM
  rw [h, if_pos (by decide)]
def SumPost (m : Mc) (i : Ins) (M C H : Nat) (w : World) (e : Ending) (w' : World) : Prop := e = .returned (.int .i64 (sumM m i).2) ∧ MAt w' M C H (sumM m i).1 ∧ KeepM M C H w w'
theorem sum_fin {wa w : World} {M C H : Nat} {m : Mc} {i : Ins} {v : Int} (hm : MAt wa M C H m) (hb : Below w.heap.size w wa) (hs : sumA i.c m.a m.x i.k = w32 v) :
    SumPost m i M C H w (.returned (.int .i64 0)) ((wa.setCell ⟨M, 0, none⟩ (.int .i64 v)).setCell ⟨M, 0, none⟩ (.int .i64 (bits .and .i64 v 4294967295))).drew := by
  unfold SumPost
  rw [sumM_yes hs, i64_and32]
  exact ⟨rfl, ((hm.setA v).setA _).drew, (((KeepM.of (M := M) (C := C) (H := H) hb).set (p := ⟨M, 0, none⟩) (.inl rfl) _).set (p := ⟨M, 0, none⟩) (.inl rfl) _).drew⟩
theorem sum_fin' {wa w : World} {M C H : Nat} {m : Mc} {i : Ins} {v : Int} (hm : MAt wa M C H m) (hb : Below w.heap.size w wa) (hs : sumA i.c m.a m.x i.k = w32 v) :
    SumPost m i M C H w (.returned (.int .i64 0)) ((wa.setCell ⟨M, 0, none⟩ (.int .i64 v)).setCell ⟨M, 0, none⟩ (.int .i64 (bits .and .i64 v 4294967295))) := by
  unfold SumPost
  rw [sumM_yes hs, i64_and32]
  exact ⟨rfl, (hm.setA v).setA _, ((KeepM.of (M := M) (C := C) (H := H) hb).set (p := ⟨M, 0, none⟩) (.inl rfl) _).set (p := ⟨M, 0, none⟩) (.inl rfl) _⟩
theorem sum_err {wa w : World} {M C H : Nat} {m : Mc} {i : Ins} (hm : MAt wa M C H m) (hb : Below w.heap.size w wa) (hs : sumA i.c m.a m.x i.k = -1) : SumPost m i M C H w (.returned (.int .i64 8)) wa := by
  unfold SumPost
  rw [sumM_no hs]
  exact ⟨rfl, hm, KeepM.of hb⟩

end Go.Proofs.YtekmnopgaopmlaaGreatDoor

/- A word at a cell, walked in the model: l05Cell. -/
set_option maxRecDepth 100000
set_option linter.unusedSimpArgs false
set_option linter.unusedVariables false
namespace Go.Proofs.YtekmnopgaopmlaaGreatDoor
open Go.RowKit

def CellPost (m : Mc) (i : Ins) (M C H : Nat) (w : World) (e : Ending) (w' : World) : Prop := e = .returned (.int .i64 (cellM m i).2) ∧ MAt w' M C H (cellM m i).1 ∧ KeepM M C H w w'

theorem MAt.drewN {w : World} {M C H : Nat} {m : Mc} (h : MAt w M C H m) : ∀ n, MAt (w.drewN n) M C H m
  | 0 => h
  | n + 1 => (MAt.drewN h n).drew
theorem KeepM.drewN {M C H : Nat} {a w : World} (h : KeepM M C H a w) : ∀ n, KeepM M C H a (w.drewN n)
  | 0 => h
  | n + 1 => (KeepM.drewN h n).drew

set_option maxHeartbeats 1600000 in
theorem l05Cell_2 (m : Mc) (y n k : Int) (M C H : Nat) (w : World) (h : MAt w M C H m) (hc : m.cells.length = 16) (hh : m.has.length = 16) (hk : In32 k) :
    Calls Tryz.prog 126 #[.pointer (some ⟨M, 0, none⟩), .agg #[.int .i64 2, .int .i64 y, .int .i64 n, .int .i64 k]] w (CellPost m ⟨2, y, n, k⟩ M C H w) := by
  have hb0 := (Below.refl w.heap.size w).alloc (Nat.le_refl _) (.cells #[.int .i64 2, .int .i64 y, .int .i64 n, .int .i64 k] 66)
  have hm0 := h.below hb0
  obtain ⟨c0, c1, c2, c3⟩ := hm0.cellsM
  unfold In32 at hk
  have HB := Lib.hid hb0
  have HM := Lib.hid hm0
  by_cases hz : 15 < k
  · have HS := Lib.hid (show cellM m ⟨2, y, n, k⟩ = (m, 8) by simp [cellM, hz])
    clear h hb0 hm0
    go_enter Tryz.func126, Tryz.ntmps126
    go_wp2_with fail
    refine bodyPost_ret (v := .int .i64 8) (by simp [results, Tryz.results126, go_sem]) rfl ?_
    unfold CellPost
    rw [HS.out]
    exact ⟨rfl, HM.out, KeepM.of HB.out⟩
  · obtain ⟨j, rfl⟩ : ∃ j : Nat, k = j := ⟨k.toNat, by omega⟩
    have hj : j < 16 := by omega
    have d0 := hm0.cell (i := j) (by omega)
    have e0 := hm0.hasC (i := j) (by omega)
    have fm0 := (hm0.free 0).1
    have fm1 := (hm0.free 1).1
    have fc := (hm0.free j).2.1
    have fh := (hm0.free j).2.2
    have hMw : M ≠ w.heap.size := by have := row_here h.1; omega
    have hwM : w.heap.size ≠ M := fun e => hMw e.symm
    have hCw : C ≠ w.heap.size := by have := row_here h.2.1; omega
    have hwC : w.heap.size ≠ C := fun e => hCw e.symm
    have hHw : H ≠ w.heap.size := by have := row_here h.2.2.1; omega
    have hwH : w.heap.size ≠ H := fun e => hHw e.symm
    have hset := hm0.setC j m.a
    have e1 := hset.hasC (i := j) (by simp; omega)
    have fh1 := (hset.free j).2.2
    obtain ⟨g0, g1, g2, g3⟩ := hset.cellsM
    have HSET := Lib.hid (hset.setH j true)
    have HS := Lib.hid (show cellM m ⟨2, y, n, j⟩ = (⟨m.a, m.x, m.cells.set j m.a, m.has.set j true⟩, 0) by simp [cellM, hz])
    clear h hb0 hm0 hset
    go_enter Tryz.func126, Tryz.ntmps126
    go_wp2_with fail
    refine wp_region_still_tail 10 (by kernel_rfl) (by kernel_rfl) ?_
    simp only [List.take_succ_cons, List.take_zero, List.drop_succ_cons, List.drop_zero, World.drew_eq]
    repeat still_step
    refine wpStill_nil ?_
    go_wp2_with fail
    refine wp_region_still_tail 6 (by kernel_rfl) (by kernel_rfl) ?_
    simp only [List.take_succ_cons, List.take_zero, List.drop_succ_cons, List.drop_zero, World.drew_eq]
    repeat still_step
    refine wpStill_nil ?_
    go_wp2_with fail
    refine bodyPost_ret (v := .int .i64 0) (by simp [results, Tryz.results126, go_sem]) rfl ?_
    unfold CellPost
    rw [HS.out]
    first
      | exact ⟨rfl, HSET.out, (((KeepM.of (M := M) (C := C) (H := H) HB.out).set (p := ⟨C, j, none⟩) (.inr (.inl rfl)) _).set (p := ⟨H, j, none⟩) (.inr (.inr rfl)) _)⟩
      | exact ⟨rfl, HSET.out, ((((KeepM.of (M := M) (C := C) (H := H) HB.out).set (p := ⟨C, j, none⟩) (.inr (.inl rfl)) _).set (p := ⟨H, j, none⟩) (.inr (.inr rfl)) _)).drew⟩
      | exact ⟨rfl, HSET.out, ((((KeepM.of (M := M) (C := C) (H := H) HB.out).set (p := ⟨C, j, none⟩) (.inr (.inl rfl)) _).set (p := ⟨H, j, none⟩) (.inr (.inr rfl)) _)).drew.drew⟩
      | exact ⟨rfl, HSET.out, ((((KeepM.of (M := M) (C := C) (H := H) HB.out).set (p := ⟨C, j, none⟩) (.inr (.inl rfl)) _).set (p := ⟨H, j, none⟩) (.inr (.inr rfl)) _)).drew.drew.drew⟩

set_option maxHeartbeats 1600000 in
theorem l05Cell_3 (m : Mc) (y n k : Int) (M C H : Nat) (w : World) (h : MAt w M C H m) (hc : m.cells.length = 16) (hh : m.has.length = 16) (hk : In32 k) :
    Calls Tryz.prog 126 #[.pointer (some ⟨M, 0, none⟩), .agg #[.int .i64 3, .int .i64 y, .int .i64 n, .int .i64 k]] w (CellPost m ⟨3, y, n, k⟩ M C H w) := by
  have hb0 := (Below.refl w.heap.size w).alloc (Nat.le_refl _) (.cells #[.int .i64 3, .int .i64 y, .int .i64 n, .int .i64 k] 66)
  have hm0 := h.below hb0
  obtain ⟨c0, c1, c2, c3⟩ := hm0.cellsM
  unfold In32 at hk
  have HB := Lib.hid hb0
  have HM := Lib.hid hm0
  by_cases hz : 15 < k
  · have HS := Lib.hid (show cellM m ⟨3, y, n, k⟩ = (m, 8) by simp [cellM, hz])
    clear h hb0 hm0
    go_enter Tryz.func126, Tryz.ntmps126
    go_wp2_with fail
    refine bodyPost_ret (v := .int .i64 8) (by simp [results, Tryz.results126, go_sem]) rfl ?_
    unfold CellPost
    rw [HS.out]
    exact ⟨rfl, HM.out, KeepM.of HB.out⟩
  · obtain ⟨j, rfl⟩ : ∃ j : Nat, k = j := ⟨k.toNat, by omega⟩
    have hj : j < 16 := by omega
    have d0 := hm0.cell (i := j) (by omega)
    have e0 := hm0.hasC (i := j) (by omega)
    have fm0 := (hm0.free 0).1
    have fm1 := (hm0.free 1).1
    have fc := (hm0.free j).2.1
    have fh := (hm0.free j).2.2
    have hMw : M ≠ w.heap.size := by have := row_here h.1; omega
    have hwM : w.heap.size ≠ M := fun e => hMw e.symm
    have hCw : C ≠ w.heap.size := by have := row_here h.2.1; omega
    have hwC : w.heap.size ≠ C := fun e => hCw e.symm
    have hHw : H ≠ w.heap.size := by have := row_here h.2.2.1; omega
    have hwH : w.heap.size ≠ H := fun e => hHw e.symm
    have hset := hm0.setC j m.a
    obtain ⟨x0, x1, x2, x3⟩ := hset.cellsM
    have xd := hset.cell (i := j) (by simp; omega)
    have xf := (hset.free j).2.1
    have hset2 := hset.setC j m.x
    simp only [List.set_set] at hset2
    have e1 := hset2.hasC (i := j) (by simp; omega)
    have fh1 := (hset2.free j).2.2
    obtain ⟨g0, g1, g2, g3⟩ := hset2.cellsM
    have HSET := Lib.hid (hset2.setH j true)
    have HS := Lib.hid (show cellM m ⟨3, y, n, j⟩ = (⟨m.a, m.x, m.cells.set j m.x, m.has.set j true⟩, 0) by simp [cellM, hz])
    clear h hb0 hm0 hset hset2
    go_enter Tryz.func126, Tryz.ntmps126
    go_wp2_with fail
    refine wp_region_still_tail 10 (by kernel_rfl) (by kernel_rfl) ?_
    simp only [List.take_succ_cons, List.take_zero, List.drop_succ_cons, List.drop_zero, World.drew_eq]
    repeat still_step
    refine wpStill_nil ?_
    go_wp2_with fail
    refine wp_region_still_tail 10 (by kernel_rfl) (by kernel_rfl) ?_
    simp only [List.take_succ_cons, List.take_zero, List.drop_succ_cons, List.drop_zero, World.drew_eq]
    repeat still_step
    refine wpStill_nil ?_
    go_wp2_with fail
    refine wp_region_still_tail 6 (by kernel_rfl) (by kernel_rfl) ?_
    simp only [List.take_succ_cons, List.take_zero, List.drop_succ_cons, List.drop_zero, World.drew_eq]
    repeat still_step
    refine wpStill_nil ?_
    go_wp2_with fail
    refine bodyPost_ret (v := .int .i64 0) (by simp [results, Tryz.results126, go_sem]) rfl ?_
    unfold CellPost
    rw [HS.out]
    first
      | exact ⟨rfl, HSET.out, ((((KeepM.of (M := M) (C := C) (H := H) HB.out).set (p := ⟨C, j, none⟩) (.inr (.inl rfl)) _).set (p := ⟨C, j, none⟩) (.inr (.inl rfl)) _).set (p := ⟨H, j, none⟩) (.inr (.inr rfl)) _)⟩
      | exact ⟨rfl, HSET.out, (((((KeepM.of (M := M) (C := C) (H := H) HB.out).set (p := ⟨C, j, none⟩) (.inr (.inl rfl)) _).set (p := ⟨C, j, none⟩) (.inr (.inl rfl)) _).set (p := ⟨H, j, none⟩) (.inr (.inr rfl)) _)).drew⟩
      | exact ⟨rfl, HSET.out, (((((KeepM.of (M := M) (C := C) (H := H) HB.out).set (p := ⟨C, j, none⟩) (.inr (.inl rfl)) _).set (p := ⟨C, j, none⟩) (.inr (.inl rfl)) _).set (p := ⟨H, j, none⟩) (.inr (.inr rfl)) _)).drew.drew⟩
      | exact ⟨rfl, HSET.out, (((((KeepM.of (M := M) (C := C) (H := H) HB.out).set (p := ⟨C, j, none⟩) (.inr (.inl rfl)) _).set (p := ⟨C, j, none⟩) (.inr (.inl rfl)) _).set (p := ⟨H, j, none⟩) (.inr (.inr rfl)) _)).drew.drew.drew⟩

set_option maxHeartbeats 1600000 in
theorem l05Cell_96 (m : Mc) (y n k : Int) (M C H : Nat) (w : World) (h : MAt w M C H m) (hc : m.cells.length = 16) (hh : m.has.length = 16) (hk : In32 k) :
    Calls Tryz.prog 126 #[.pointer (some ⟨M, 0, none⟩), .agg #[.int .i64 96, .int .i64 y, .int .i64 n, .int .i64 k]] w (CellPost m ⟨96, y, n, k⟩ M C H w) := by
  have hb0 := (Below.refl w.heap.size w).alloc (Nat.le_refl _) (.cells #[.int .i64 96, .int .i64 y, .int .i64 n, .int .i64 k] 66)
  have hm0 := h.below hb0
  obtain ⟨c0, c1, c2, c3⟩ := hm0.cellsM
  unfold In32 at hk
  have HB := Lib.hid hb0
  have HM := Lib.hid hm0
  by_cases hz : 15 < k
  · have HS := Lib.hid (show cellM m ⟨96, y, n, k⟩ = (m, 8) by simp [cellM, hz])
    clear h hb0 hm0
    go_enter Tryz.func126, Tryz.ntmps126
    go_wp2_with fail
    refine bodyPost_ret (v := .int .i64 8) (by simp [results, Tryz.results126, go_sem]) rfl ?_
    unfold CellPost
    rw [HS.out]
    exact ⟨rfl, HM.out, KeepM.of HB.out⟩
  · obtain ⟨j, rfl⟩ : ∃ j : Nat, k = j := ⟨k.toNat, by omega⟩
    have hj : j < 16 := by omega
    have d0 := hm0.cell (i := j) (by omega)
    have e0 := hm0.hasC (i := j) (by omega)
    have fm0 := (hm0.free 0).1
    have fm1 := (hm0.free 1).1
    have fc := (hm0.free j).2.1
    have fh := (hm0.free j).2.2
    have hMw : M ≠ w.heap.size := by have := row_here h.1; omega
    have hwM : w.heap.size ≠ M := fun e => hMw e.symm
    have hCw : C ≠ w.heap.size := by have := row_here h.2.1; omega
    have hwC : w.heap.size ≠ C := fun e => hCw e.symm
    have hHw : H ≠ w.heap.size := by have := row_here h.2.2.1; omega
    have hwH : w.heap.size ≠ H := fun e => hHw e.symm
    obtain ⟨hv, hhv⟩ : ∃ hv, m.has.getD j false = hv := ⟨_, rfl⟩
    obtain ⟨cv, hcv⟩ : ∃ cv, m.cells.getD j 0 = cv := ⟨_, rfl⟩
    rw [hhv] at e0
    rw [hcv] at d0
    cases hv
    · have HS := Lib.hid (show cellM m ⟨96, y, n, j⟩ = (m, 6) by unfold cellM; rw [if_neg hz, if_neg (show ¬ (96 : Int) = 2 by decide), if_neg (show ¬ (96 : Int) = 3 by decide)]; simp only [Int.toNat_natCast]; rw [if_pos hhv])
      clear h hb0 hm0 hhv hcv
      go_enter Tryz.func126, Tryz.ntmps126
      go_wp2_with fail
      go_quiet (fail)
      go_wp2_with fail
      refine bodyPost_ret (v := .int .i64 6) (by simp [results, Tryz.results126, go_sem]) rfl ?_
      unfold CellPost
      rw [HS.out]
      exact ⟨rfl, HM.out.drewN _, (KeepM.of HB.out).drewN _⟩
    · have HS := Lib.hid (show cellM m ⟨96, y, n, j⟩ = (⟨cv, m.x, m.cells, m.has⟩, 0) by unfold cellM; rw [if_neg hz, if_neg (show ¬ (96 : Int) = 2 by decide), if_neg (show ¬ (96 : Int) = 3 by decide)]; simp only [Int.toNat_natCast]; rw [if_neg (by rw [hhv]; decide)]; simp only [if_true, hcv])
      have HST := Lib.hid (fun nq => (hm0.drewN nq).setA cv)
      have HSC := Lib.hid (fun nq => (hm0.drewN nq).cellsM)
      have HSF := Lib.hid (fun nq i => (hm0.drewN nq).free i)
      have HSD := Lib.hid (fun nq => ((hm0.drewN nq).cell (i := j) (by omega)).trans (congrArg (fun v => some (Value.int .i64 v)) hcv))
      have HSK := Lib.hid (fun nq => ((below_drawn (Below.refl (w.alloc (.cells #[.int .i64 96, .int .i64 y, .int .i64 n, .int .i64 (j : Int)] 66)).heap.size _) nq).cell (p := ⟨w.heap.size, 3, none⟩) (by simp)).trans (row_cell (heap_alloc_new w (.cells #[.int .i64 96, .int .i64 y, .int .i64 n, .int .i64 (j : Int)] 66)) 3))
      clear h hb0 hm0 hhv hcv
      go_enter Tryz.func126, Tryz.ntmps126
      go_wp2_with fail
      go_quiet (fail)
      go_wp2_with fail
      obtain ⟨q0, q1, q2, q3⟩ := HSC.out nq
      have qd := HSD.out nq
      have qf0 := (HSF.out nq 0).1
      have qf1 := (HSF.out nq 1).1
      have qk := HSK.out nq
      simp only [List.getElem?_toArray, List.getElem?_cons_zero, List.getElem?_cons_succ] at qk
      have hst := HST.out nq
      have hkw := (KeepM.of (M := M) (C := C) (H := H) HB.out).drewN nq
      obtain ⟨W, hW⟩ : ∃ W, (w.alloc (.cells #[.int .i64 96, .int .i64 y, .int .i64 n, .int .i64 (j : Int)] 66)).drewN nq = W := ⟨_, rfl⟩
      rw [hW] at q0 q1 q2 q3 qd qf0 qf1 qk hst hkw ⊢
      have HSTW := Lib.hid hst
      have HKW := Lib.hid hkw
      clear hW hst hkw c0 c1 c2 c3 d0 e0 fm0 fm1 fc fh
      have hji : (j : Int) < 16 := by omega
      refine wp_region_still_tail 9 (by kernel_rfl) (by kernel_rfl) ?_
      simp only [List.take_succ_cons, List.take_zero, List.drop_succ_cons, List.drop_zero, World.drew_eq]
      repeat still_step
      refine wpStill_nil ?_
      go_wp2_with fail
      refine bodyPost_ret (v := .int .i64 0) (by simp [results, Tryz.results126, go_sem]) rfl ?_
      unfold CellPost
      rw [HS.out]
      first
        | exact ⟨rfl, HSTW.out, (HKW.out.set (p := ⟨M, 0, none⟩) (.inl rfl) _)⟩
        | exact ⟨rfl, HSTW.out, (HKW.out.set (p := ⟨M, 0, none⟩) (.inl rfl) _).drew⟩
        | exact ⟨rfl, HSTW.out, (HKW.out.drew.set (p := ⟨M, 0, none⟩) (.inl rfl) _)⟩

set_option maxHeartbeats 1600000 in
theorem l05Cell_97 (m : Mc) (y n k : Int) (M C H : Nat) (w : World) (h : MAt w M C H m) (hc : m.cells.length = 16) (hh : m.has.length = 16) (hk : In32 k) :
    Calls Tryz.prog 126 #[.pointer (some ⟨M, 0, none⟩), .agg #[.int .i64 97, .int .i64 y, .int .i64 n, .int .i64 k]] w (CellPost m ⟨97, y, n, k⟩ M C H w) := by
  have hb0 := (Below.refl w.heap.size w).alloc (Nat.le_refl _) (.cells #[.int .i64 97, .int .i64 y, .int .i64 n, .int .i64 k] 66)
  have hm0 := h.below hb0
  obtain ⟨c0, c1, c2, c3⟩ := hm0.cellsM
  unfold In32 at hk
  have HB := Lib.hid hb0
  have HM := Lib.hid hm0
  by_cases hz : 15 < k
  · have HS := Lib.hid (show cellM m ⟨97, y, n, k⟩ = (m, 8) by simp [cellM, hz])
    clear h hb0 hm0
    go_enter Tryz.func126, Tryz.ntmps126
    go_wp2_with fail
    refine bodyPost_ret (v := .int .i64 8) (by simp [results, Tryz.results126, go_sem]) rfl ?_
    unfold CellPost
    rw [HS.out]
    exact ⟨rfl, HM.out, KeepM.of HB.out⟩
  · obtain ⟨j, rfl⟩ : ∃ j : Nat, k = j := ⟨k.toNat, by omega⟩
    have hj : j < 16 := by omega
    have d0 := hm0.cell (i := j) (by omega)
    have e0 := hm0.hasC (i := j) (by omega)
    have fm0 := (hm0.free 0).1
    have fm1 := (hm0.free 1).1
    have fc := (hm0.free j).2.1
    have fh := (hm0.free j).2.2
    have hMw : M ≠ w.heap.size := by have := row_here h.1; omega
    have hwM : w.heap.size ≠ M := fun e => hMw e.symm
    have hCw : C ≠ w.heap.size := by have := row_here h.2.1; omega
    have hwC : w.heap.size ≠ C := fun e => hCw e.symm
    have hHw : H ≠ w.heap.size := by have := row_here h.2.2.1; omega
    have hwH : w.heap.size ≠ H := fun e => hHw e.symm
    obtain ⟨hv, hhv⟩ : ∃ hv, m.has.getD j false = hv := ⟨_, rfl⟩
    obtain ⟨cv, hcv⟩ : ∃ cv, m.cells.getD j 0 = cv := ⟨_, rfl⟩
    rw [hhv] at e0
    rw [hcv] at d0
    cases hv
    · have HS := Lib.hid (show cellM m ⟨97, y, n, j⟩ = (m, 6) by unfold cellM; rw [if_neg hz, if_neg (show ¬ (97 : Int) = 2 by decide), if_neg (show ¬ (97 : Int) = 3 by decide)]; simp only [Int.toNat_natCast]; rw [if_pos hhv])
      clear h hb0 hm0 hhv hcv
      go_enter Tryz.func126, Tryz.ntmps126
      go_wp2_with fail
      go_quiet (fail)
      go_wp2_with fail
      refine bodyPost_ret (v := .int .i64 6) (by simp [results, Tryz.results126, go_sem]) rfl ?_
      unfold CellPost
      rw [HS.out]
      exact ⟨rfl, HM.out.drewN _, (KeepM.of HB.out).drewN _⟩
    · have HS := Lib.hid (show cellM m ⟨97, y, n, j⟩ = (⟨m.a, cv, m.cells, m.has⟩, 0) by unfold cellM; rw [if_neg hz, if_neg (show ¬ (97 : Int) = 2 by decide), if_neg (show ¬ (97 : Int) = 3 by decide)]; simp only [Int.toNat_natCast]; rw [if_neg (by rw [hhv]; decide)]; rw [if_neg (show ¬ (97 : Int) = 96 by decide), hcv])
      have HST := Lib.hid (fun nq => (hm0.drewN nq).setX cv)
      have HSC := Lib.hid (fun nq => (hm0.drewN nq).cellsM)
      have HSF := Lib.hid (fun nq i => (hm0.drewN nq).free i)
      have HSD := Lib.hid (fun nq => ((hm0.drewN nq).cell (i := j) (by omega)).trans (congrArg (fun v => some (Value.int .i64 v)) hcv))
      have HSK := Lib.hid (fun nq => ((below_drawn (Below.refl (w.alloc (.cells #[.int .i64 97, .int .i64 y, .int .i64 n, .int .i64 (j : Int)] 66)).heap.size _) nq).cell (p := ⟨w.heap.size, 3, none⟩) (by simp)).trans (row_cell (heap_alloc_new w (.cells #[.int .i64 97, .int .i64 y, .int .i64 n, .int .i64 (j : Int)] 66)) 3))
      clear h hb0 hm0 hhv hcv
      go_enter Tryz.func126, Tryz.ntmps126
      go_wp2_with fail
      go_quiet (fail)
      go_wp2_with fail
      obtain ⟨q0, q1, q2, q3⟩ := HSC.out nq
      have qd := HSD.out nq
      have qf0 := (HSF.out nq 0).1
      have qf1 := (HSF.out nq 1).1
      have qk := HSK.out nq
      simp only [List.getElem?_toArray, List.getElem?_cons_zero, List.getElem?_cons_succ] at qk
      have hst := HST.out nq
      have hkw := (KeepM.of (M := M) (C := C) (H := H) HB.out).drewN nq
      obtain ⟨W, hW⟩ : ∃ W, (w.alloc (.cells #[.int .i64 97, .int .i64 y, .int .i64 n, .int .i64 (j : Int)] 66)).drewN nq = W := ⟨_, rfl⟩
      rw [hW] at q0 q1 q2 q3 qd qf0 qf1 qk hst hkw ⊢
      have HSTW := Lib.hid hst
      have HKW := Lib.hid hkw
      clear hW hst hkw c0 c1 c2 c3 d0 e0 fm0 fm1 fc fh
      have hji : (j : Int) < 16 := by omega
      refine wp_region_still_tail 9 (by kernel_rfl) (by kernel_rfl) ?_
      simp only [List.take_succ_cons, List.take_zero, List.drop_succ_cons, List.drop_zero, World.drew_eq]
      repeat still_step
      refine wpStill_nil ?_
      go_wp2_with fail
      refine bodyPost_ret (v := .int .i64 0) (by simp [results, Tryz.results126, go_sem]) rfl ?_
      unfold CellPost
      rw [HS.out]
      first
        | exact ⟨rfl, HSTW.out, (HKW.out.set (p := ⟨M, 1, none⟩) (.inl rfl) _)⟩
        | exact ⟨rfl, HSTW.out, (HKW.out.set (p := ⟨M, 1, none⟩) (.inl rfl) _).drew⟩
        | exact ⟨rfl, HSTW.out, (HKW.out.drew.set (p := ⟨M, 1, none⟩) (.inl rfl) _)⟩

end Go.Proofs.YtekmnopgaopmlaaGreatDoor

/- A word done, walked in the model: l05Do. -/
set_option maxRecDepth 100000
set_option linter.unusedSimpArgs false
set_option linter.unusedVariables false
namespace Go.Proofs.YtekmnopgaopmlaaGreatDoor
open Go.RowKit

def DoPost (b : ByteArray) (m : Mc) (i : Ins) (M C H : Nat) (w : World) (e : Ending) (w' : World) : Prop := e = .returned (.int .i64 (doM b m i).2) ∧ MAt w' M C H (doM b m i).1 ∧ KeepM M C H w w'
theorem keep_behind {M C H : Nat} {w wa w' : World} (h : Below w.heap.size w wa) (k : KeepM M C H wa w') : KeepM M C H w w' := (KeepM.of h).trans k

set_option maxHeartbeats 1600000 in
theorem l05Do_sum (b : ByteArray) (m : Mc) (c y n k : Int) (M C H : Nat) (w : World) (h : MAt w M C H m) (hc : c ≠ 32 ∧ c ≠ 0 ∧ c ≠ 1 ∧ c ≠ 7 ∧ c ≠ 135 ∧ c ≠ 96 ∧ c ≠ 97 ∧ c ≠ 2 ∧ c ≠ 3)
    (hs : ∀ W, MAt W M C H m → Calls Tryz.prog 127 #[.pointer (some ⟨M, 0, none⟩), .agg #[.int .i64 c, .int .i64 y, .int .i64 n, .int .i64 k]] W (SumPost m ⟨c, y, n, k⟩ M C H W)) :
    Calls Tryz.prog 86 #[.pointer (some ⟨M, 0, none⟩), .agg #[.int .i64 c, .int .i64 y, .int .i64 n, .int .i64 k], .string b] w (DoPost b m ⟨c, y, n, k⟩ M C H w) := by
  obtain ⟨n1, n2, n3, n4, n5, n6, n7, n8, n9⟩ := hc
  have HD := Lib.hid (show doM b m ⟨c, y, n, k⟩ = sumM m ⟨c, y, n, k⟩ by simp [doM, atCell, n1, n2, n3, n4, n5, n6, n7, n8, n9])
  have hb0 := (Below.refl w.heap.size w).alloc (Nat.le_refl _) (.cells #[.int .i64 c, .int .i64 y, .int .i64 n, .int .i64 k] 66)
  have HM := Lib.hid (h.below hb0)
  have HB := Lib.hid hb0
  have HS := Lib.hid hs
  have t1 : (c == 32) = false := by simpa using n1
  have t2 : (c == 0) = false := by simpa using n2
  have t3 : (c == 1) = false := by simpa using n3
  have t4 : (c == 7) = false := by simpa using n4
  have t5 : (c == 135) = false := by simpa using n5
  have t6 : (c == 96) = false := by simpa using n6
  have t7 : (c == 97) = false := by simpa using n7
  have t8 : (c == 2) = false := by simpa using n8
  have t9 : (c == 3) = false := by simpa using n9
  clear h hb0 hs n1 n2 n3 n4 n5 n6 n7 n8 n9
  go_enter Tryz.func86, Tryz.ntmps86
  go_wp2_with fail
  refine (HS.out _ HM.out).mono ?_
  rintro e w1 ⟨rfl, hm1, hk1⟩
  have HM1 := Lib.hid hm1
  have HK1 := Lib.hid hk1
  clear hm1 hk1
  go_wp2_with fail
  refine bodyPost_ret (v := .int .i64 (sumM m ⟨c, y, n, k⟩).2) (by simp [results, Tryz.results86, go_sem]) rfl ?_
  unfold DoPost
  rw [HD.out]
  exact ⟨rfl, HM1.out, keep_behind HB.out HK1.out⟩

set_option maxHeartbeats 1600000 in
theorem l05Do_cell (b : ByteArray) (m : Mc) (c y n k : Int) (M C H : Nat) (w : World) (h : MAt w M C H m) (hc : c = 96 ∨ c = 97 ∨ c = 2 ∨ c = 3)
    (hs : ∀ W, MAt W M C H m → Calls Tryz.prog 126 #[.pointer (some ⟨M, 0, none⟩), .agg #[.int .i64 c, .int .i64 y, .int .i64 n, .int .i64 k]] W (CellPost m ⟨c, y, n, k⟩ M C H W)) :
    Calls Tryz.prog 86 #[.pointer (some ⟨M, 0, none⟩), .agg #[.int .i64 c, .int .i64 y, .int .i64 n, .int .i64 k], .string b] w (DoPost b m ⟨c, y, n, k⟩ M C H w) := by
  have hb0 := (Below.refl w.heap.size w).alloc (Nat.le_refl _) (.cells #[.int .i64 c, .int .i64 y, .int .i64 n, .int .i64 k] 66)
  have HM := Lib.hid (h.below hb0)
  have HB := Lib.hid hb0
  have HS := Lib.hid hs
  have HD := Lib.hid (show doM b m ⟨c, y, n, k⟩ = cellM m ⟨c, y, n, k⟩ by rcases hc with rfl | rfl | rfl | rfl <;> simp [doM, atCell])
  clear h hb0 hs
  rcases hc with rfl | rfl | rfl | rfl
  all_goals
    go_enter Tryz.func86, Tryz.ntmps86
    go_wp2_with fail
    refine (HS.out _ HM.out).mono ?_
    rintro e w1 ⟨rfl, hm1, hk1⟩
    have HM1 := Lib.hid hm1
    have HK1 := Lib.hid hk1
    clear hm1 hk1
    go_wp2_with fail
    refine bodyPost_ret (v := .int .i64 (cellM m _).2) (by simp [results, Tryz.results86, go_sem]; rfl) rfl ?_
    unfold DoPost
    rw [HD.out]
    exact ⟨rfl, HM1.out, keep_behind HB.out HK1.out⟩

set_option maxHeartbeats 1600000 in
theorem l05Do_set (b : ByteArray) (m : Mc) (c y n k : Int) (M C H : Nat) (w : World) (h : MAt w M C H m) (hc : c = 0 ∨ c = 1 ∨ c = 7 ∨ c = 135) :
    Calls Tryz.prog 86 #[.pointer (some ⟨M, 0, none⟩), .agg #[.int .i64 c, .int .i64 y, .int .i64 n, .int .i64 k], .string b] w (DoPost b m ⟨c, y, n, k⟩ M C H w) := by
  have hb0 := (Below.refl w.heap.size w).alloc (Nat.le_refl _) (.cells #[.int .i64 c, .int .i64 y, .int .i64 n, .int .i64 k] 66)
  have hm0 := h.below hb0
  have HM := Lib.hid hm0
  have HB := Lib.hid hb0
  obtain ⟨c0, c1, c2, c3⟩ := hm0.cellsM
  have f0 := (hm0.free 0).1
  have f1 := (hm0.free 1).1
  clear h hb0 hm0
  rcases hc with rfl | rfl | rfl | rfl
  all_goals
    go_enter Tryz.func86, Tryz.ntmps86
    go_wp2_with fail
    refine bodyPost_ret (v := .int .i64 0) (by simp [results, Tryz.results86, go_sem]) rfl ?_
    first
      | exact ⟨by simp [doM], by simpa [doM] using HM.out.setA _, ((KeepM.of (M := M) (C := C) (H := H) HB.out).set (p := ⟨M, 0, none⟩) (.inl rfl) _)⟩
      | exact ⟨by simp [doM], by simpa [doM] using HM.out.setX _, ((KeepM.of (M := M) (C := C) (H := H) HB.out).set (p := ⟨M, 1, none⟩) (.inl rfl) _)⟩

set_option maxHeartbeats 1600000 in
theorem l05Do_load (b : ByteArray) (m : Mc) (y n k : Int) (M C H : Nat) (w : World) (h : MAt w M C H m) (hb : b.size ≤ maxLen) (hk : In32 k) :
    Calls Tryz.prog 86 #[.pointer (some ⟨M, 0, none⟩), .agg #[.int .i64 32, .int .i64 y, .int .i64 n, .int .i64 k], .string b] w (DoPost b m ⟨32, y, n, k⟩ M C H w) := by
  have hb0 := (Below.refl w.heap.size w).alloc (Nat.le_refl _) (.cells #[.int .i64 32, .int .i64 y, .int .i64 n, .int .i64 k] 66)
  have hm0 := h.below hb0
  have HM := Lib.hid hm0
  have HB := Lib.hid hb0
  obtain ⟨c0, c1, c2, c3⟩ := hm0.cellsM
  have f0 := (hm0.free 0).1
  unfold In32 at hk
  have ql := fun W => specLoad_any b k W hb (by omega) (by omega)
  obtain ⟨v, hv⟩ : ∃ v, loadB b k = v := ⟨_, rfl⟩
  simp only [hv] at ql
  have HD := Lib.hid (show doM b m ⟨32, y, n, k⟩ = if v < 0 then (m, 8) else (⟨v, m.x, m.cells, m.has⟩, 0) by simp [doM, hv])
  have QL := Lib.hid ql
  clear h hb0 hm0 hv ql
  by_cases hz : v < 0
  · go_enter Tryz.func86, Tryz.ntmps86
    go_wp2_with fail
    refine (QL.out _).mono ?_
    rintro e w1 ⟨rfl, rfl⟩
    go_wp2_with fail
    refine bodyPost_ret (v := .int .i64 8) (by simp [results, Tryz.results86, go_sem]) rfl ?_
    unfold DoPost
    rw [HD.out, if_pos hz]
    exact ⟨rfl, HM.out, KeepM.of HB.out⟩
  · go_enter Tryz.func86, Tryz.ntmps86
    go_wp2_with fail
    refine (QL.out _).mono ?_
    rintro e w1 ⟨rfl, rfl⟩
    go_wp2_with fail
    refine bodyPost_ret (v := .int .i64 0) (by simp [results, Tryz.results86, go_sem]) rfl ?_
    unfold DoPost
    rw [HD.out, if_neg (show ¬ v < 0 by omega)]
    exact ⟨rfl, HM.out.setA _, ((KeepM.of (M := M) (C := C) (H := H) HB.out).set (p := ⟨M, 0, none⟩) (.inl rfl) _)⟩

end Go.Proofs.YtekmnopgaopmlaaGreatDoor

/- The words that reckon, walked in the model: l05Sum. -/
set_option maxRecDepth 100000
set_option linter.unusedSimpArgs false
set_option linter.unusedVariables false
namespace Go.Proofs.YtekmnopgaopmlaaGreatDoor
open Go.RowKit

set_option maxHeartbeats 1600000 in
theorem l05Sum_4 (m : Mc) (y n k : Int) (M C H : Nat) (w : World) (h : MAt w M C H m) (ha : In32 m.a) (hx : In32 m.x) (hk : In32 k) :
    Calls Tryz.prog 127 #[.pointer (some ⟨M, 0, none⟩), .agg #[.int .i64 4, .int .i64 y, .int .i64 n, .int .i64 k]] w (SumPost m ⟨4, y, n, k⟩ M C H w) := by
  have hb0 := (Below.refl w.heap.size w).alloc (Nat.le_refl _) (.cells #[.int .i64 4, .int .i64 y, .int .i64 n, .int .i64 k] 66)
  have hm0 := h.below hb0
  obtain ⟨c0, c1, _, _⟩ := hm0.cellsM
  have f0 := (hm0.free 0).1
  have HB := Lib.hid hb0
  have HM := Lib.hid hm0
  clear h hb0 hm0
  have HS := Lib.hid (show sumA 4 m.a m.x k = w32 (m.a + k) by simp [sumA])
  obtain ⟨a, x, cs, hs⟩ := m
  unfold In32 at ha hx hk
  simp only at c0 c1 ha hx HS
  go_enter Tryz.func127, Tryz.ntmps127
  go_wp2_with fail
  refine wp_region_still_tail 8 (by kernel_rfl) (by kernel_rfl) ?_
  simp only [List.take_succ_cons, List.take_zero, List.drop_succ_cons, List.drop_zero, World.drew_eq]
  repeat still_step
  refine wpStill_nil ?_
  go_wp2_with fail
  refine bodyPost_ret (v := .int .i64 0) (by simp [results, Tryz.results127, go_sem]) rfl ?_
  exact sum_fin HM.out HB.out HS.out

set_option maxHeartbeats 1600000 in
theorem l05Sum_20 (m : Mc) (y n k : Int) (M C H : Nat) (w : World) (h : MAt w M C H m) (ha : In32 m.a) (hx : In32 m.x) (hk : In32 k) :
    Calls Tryz.prog 127 #[.pointer (some ⟨M, 0, none⟩), .agg #[.int .i64 20, .int .i64 y, .int .i64 n, .int .i64 k]] w (SumPost m ⟨20, y, n, k⟩ M C H w) := by
  have hb0 := (Below.refl w.heap.size w).alloc (Nat.le_refl _) (.cells #[.int .i64 20, .int .i64 y, .int .i64 n, .int .i64 k] 66)
  have hm0 := h.below hb0
  obtain ⟨c0, c1, _, _⟩ := hm0.cellsM
  have f0 := (hm0.free 0).1
  have HB := Lib.hid hb0
  have HM := Lib.hid hm0
  clear h hb0 hm0
  have HS := Lib.hid (show sumA 20 m.a m.x k = w32 (m.a - k) by simp [sumA])
  obtain ⟨a, x, cs, hs⟩ := m
  unfold In32 at ha hx hk
  simp only at c0 c1 ha hx HS
  go_enter Tryz.func127, Tryz.ntmps127
  go_wp2_with fail
  refine wp_region_still_tail 8 (by kernel_rfl) (by kernel_rfl) ?_
  simp only [List.take_succ_cons, List.take_zero, List.drop_succ_cons, List.drop_zero, World.drew_eq]
  repeat still_step
  refine wpStill_nil ?_
  go_wp2_with fail
  refine bodyPost_ret (v := .int .i64 0) (by simp [results, Tryz.results127, go_sem]) rfl ?_
  exact sum_fin HM.out HB.out HS.out

set_option maxHeartbeats 1600000 in
theorem l05Sum_36 (m : Mc) (y n k : Int) (M C H : Nat) (w : World) (h : MAt w M C H m) (ha : In32 m.a) (hx : In32 m.x) (hk : In32 k) :
    Calls Tryz.prog 127 #[.pointer (some ⟨M, 0, none⟩), .agg #[.int .i64 36, .int .i64 y, .int .i64 n, .int .i64 k]] w (SumPost m ⟨36, y, n, k⟩ M C H w) := by
  have hb0 := (Below.refl w.heap.size w).alloc (Nat.le_refl _) (.cells #[.int .i64 36, .int .i64 y, .int .i64 n, .int .i64 k] 66)
  have hm0 := h.below hb0
  obtain ⟨c0, c1, _, _⟩ := hm0.cellsM
  have f0 := (hm0.free 0).1
  have HB := Lib.hid hb0
  have HM := Lib.hid hm0
  clear h hb0 hm0
  obtain ⟨v, hv⟩ : ∃ v, IntKind.i64.wrap (m.a * k) = v := ⟨_, rfl⟩
  have HS := Lib.hid (show sumA 36 m.a m.x k = w32 v by rw [← hv]; simp [sumA, w32_wrap])
  obtain ⟨a, x, cs, hs⟩ := m
  unfold In32 at ha hx hk
  simp only at c0 c1 ha hx hv HS
  go_enter Tryz.func127, Tryz.ntmps127
  go_wp2_with fail
  refine wp_region_still_tail 8 (by kernel_rfl) (by kernel_rfl) ?_
  simp only [List.take_succ_cons, List.take_zero, List.drop_succ_cons, List.drop_zero, World.drew_eq]
  repeat still_step
  refine wpStill_nil ?_
  go_wp2_with fail
  refine bodyPost_ret (v := .int .i64 0) (by simp [results, Tryz.results127, go_sem]) rfl ?_
  exact sum_fin HM.out HB.out HS.out

set_option maxHeartbeats 1600000 in
theorem l05Sum_68 (m : Mc) (y n k : Int) (M C H : Nat) (w : World) (h : MAt w M C H m) (ha : In32 m.a) (hx : In32 m.x) (hk : In32 k) :
    Calls Tryz.prog 127 #[.pointer (some ⟨M, 0, none⟩), .agg #[.int .i64 68, .int .i64 y, .int .i64 n, .int .i64 k]] w (SumPost m ⟨68, y, n, k⟩ M C H w) := by
  have hb0 := (Below.refl w.heap.size w).alloc (Nat.le_refl _) (.cells #[.int .i64 68, .int .i64 y, .int .i64 n, .int .i64 k] 66)
  have hm0 := h.below hb0
  obtain ⟨c0, c1, _, _⟩ := hm0.cellsM
  have f0 := (hm0.free 0).1
  have HB := Lib.hid hb0
  have HM := Lib.hid hm0
  clear h hb0 hm0
  obtain ⟨v, hv⟩ : ∃ v, bits .or .i64 m.a k = v := ⟨_, rfl⟩
  have HS := Lib.hid (show sumA 68 m.a m.x k = w32 v by rw [← hv]; simp [sumA])
  obtain ⟨a, x, cs, hs⟩ := m
  unfold In32 at ha hx hk
  simp only at c0 c1 ha hx hv HS
  go_enter Tryz.func127, Tryz.ntmps127
  go_wp2_with fail
  refine wp_region_still_tail 8 (by kernel_rfl) (by kernel_rfl) ?_
  simp only [List.take_succ_cons, List.take_zero, List.drop_succ_cons, List.drop_zero, World.drew_eq]
  repeat still_step
  refine wpStill_nil ?_
  go_wp2_with fail
  refine bodyPost_ret (v := .int .i64 0) (by simp [results, Tryz.results127, go_sem]) rfl ?_
  exact sum_fin HM.out HB.out HS.out

set_option maxHeartbeats 1600000 in
theorem l05Sum_84 (m : Mc) (y n k : Int) (M C H : Nat) (w : World) (h : MAt w M C H m) (ha : In32 m.a) (hx : In32 m.x) (hk : In32 k) :
    Calls Tryz.prog 127 #[.pointer (some ⟨M, 0, none⟩), .agg #[.int .i64 84, .int .i64 y, .int .i64 n, .int .i64 k]] w (SumPost m ⟨84, y, n, k⟩ M C H w) := by
  have hb0 := (Below.refl w.heap.size w).alloc (Nat.le_refl _) (.cells #[.int .i64 84, .int .i64 y, .int .i64 n, .int .i64 k] 66)
  have hm0 := h.below hb0
  obtain ⟨c0, c1, _, _⟩ := hm0.cellsM
  have f0 := (hm0.free 0).1
  have HB := Lib.hid hb0
  have HM := Lib.hid hm0
  clear h hb0 hm0
  obtain ⟨v, hv⟩ : ∃ v, bits .and .i64 m.a k = v := ⟨_, rfl⟩
  have HS := Lib.hid (show sumA 84 m.a m.x k = w32 v by rw [← hv]; simp [sumA])
  obtain ⟨a, x, cs, hs⟩ := m
  unfold In32 at ha hx hk
  simp only at c0 c1 ha hx hv HS
  go_enter Tryz.func127, Tryz.ntmps127
  go_wp2_with fail
  refine wp_region_still_tail 8 (by kernel_rfl) (by kernel_rfl) ?_
  simp only [List.take_succ_cons, List.take_zero, List.drop_succ_cons, List.drop_zero, World.drew_eq]
  repeat still_step
  refine wpStill_nil ?_
  go_wp2_with fail
  refine bodyPost_ret (v := .int .i64 0) (by simp [results, Tryz.results127, go_sem]) rfl ?_
  exact sum_fin HM.out HB.out HS.out

set_option maxHeartbeats 1600000 in
theorem l05Sum_164 (m : Mc) (y n k : Int) (M C H : Nat) (w : World) (h : MAt w M C H m) (ha : In32 m.a) (hx : In32 m.x) (hk : In32 k) :
    Calls Tryz.prog 127 #[.pointer (some ⟨M, 0, none⟩), .agg #[.int .i64 164, .int .i64 y, .int .i64 n, .int .i64 k]] w (SumPost m ⟨164, y, n, k⟩ M C H w) := by
  have hb0 := (Below.refl w.heap.size w).alloc (Nat.le_refl _) (.cells #[.int .i64 164, .int .i64 y, .int .i64 n, .int .i64 k] 66)
  have hm0 := h.below hb0
  obtain ⟨c0, c1, _, _⟩ := hm0.cellsM
  have f0 := (hm0.free 0).1
  have HB := Lib.hid hb0
  have HM := Lib.hid hm0
  clear h hb0 hm0
  obtain ⟨v, hv⟩ : ∃ v, bits .xor .i64 m.a k = v := ⟨_, rfl⟩
  have HS := Lib.hid (show sumA 164 m.a m.x k = w32 v by rw [← hv]; simp [sumA])
  obtain ⟨a, x, cs, hs⟩ := m
  unfold In32 at ha hx hk
  simp only at c0 c1 ha hx hv HS
  go_enter Tryz.func127, Tryz.ntmps127
  go_wp2_with fail
  refine wp_region_still_tail 8 (by kernel_rfl) (by kernel_rfl) ?_
  simp only [List.take_succ_cons, List.take_zero, List.drop_succ_cons, List.drop_zero, World.drew_eq]
  repeat still_step
  refine wpStill_nil ?_
  go_wp2_with fail
  refine bodyPost_ret (v := .int .i64 0) (by simp [results, Tryz.results127, go_sem]) rfl ?_
  exact sum_fin HM.out HB.out HS.out

set_option maxHeartbeats 1600000 in
theorem l05Sum_12 (m : Mc) (y n k : Int) (M C H : Nat) (w : World) (h : MAt w M C H m) (ha : In32 m.a) (hx : In32 m.x) (hk : In32 k) :
    Calls Tryz.prog 127 #[.pointer (some ⟨M, 0, none⟩), .agg #[.int .i64 12, .int .i64 y, .int .i64 n, .int .i64 k]] w (SumPost m ⟨12, y, n, k⟩ M C H w) := by
  have hb0 := (Below.refl w.heap.size w).alloc (Nat.le_refl _) (.cells #[.int .i64 12, .int .i64 y, .int .i64 n, .int .i64 k] 66)
  have hm0 := h.below hb0
  obtain ⟨c0, c1, _, _⟩ := hm0.cellsM
  have f0 := (hm0.free 0).1
  have HB := Lib.hid hb0
  have HM := Lib.hid hm0
  clear h hb0 hm0
  have HS := Lib.hid (show sumA 12 m.a m.x k = w32 (m.a + m.x) by simp [sumA])
  obtain ⟨a, x, cs, hs⟩ := m
  unfold In32 at ha hx hk
  simp only at c0 c1 ha hx HS
  go_enter Tryz.func127, Tryz.ntmps127
  go_wp2_with fail
  refine wp_region_still_tail 10 (by kernel_rfl) (by kernel_rfl) ?_
  simp only [List.take_succ_cons, List.take_zero, List.drop_succ_cons, List.drop_zero, World.drew_eq]
  repeat still_step
  refine wpStill_nil ?_
  go_wp2_with fail
  refine bodyPost_ret (v := .int .i64 0) (by simp [results, Tryz.results127, go_sem]) rfl ?_
  exact sum_fin HM.out HB.out HS.out

set_option maxHeartbeats 1600000 in
theorem l05Sum_28 (m : Mc) (y n k : Int) (M C H : Nat) (w : World) (h : MAt w M C H m) (ha : In32 m.a) (hx : In32 m.x) (hk : In32 k) :
    Calls Tryz.prog 127 #[.pointer (some ⟨M, 0, none⟩), .agg #[.int .i64 28, .int .i64 y, .int .i64 n, .int .i64 k]] w (SumPost m ⟨28, y, n, k⟩ M C H w) := by
  have hb0 := (Below.refl w.heap.size w).alloc (Nat.le_refl _) (.cells #[.int .i64 28, .int .i64 y, .int .i64 n, .int .i64 k] 66)
  have hm0 := h.below hb0
  obtain ⟨c0, c1, _, _⟩ := hm0.cellsM
  have f0 := (hm0.free 0).1
  have HB := Lib.hid hb0
  have HM := Lib.hid hm0
  clear h hb0 hm0
  have HS := Lib.hid (show sumA 28 m.a m.x k = w32 (m.a - m.x) by simp [sumA])
  obtain ⟨a, x, cs, hs⟩ := m
  unfold In32 at ha hx hk
  simp only at c0 c1 ha hx HS
  go_enter Tryz.func127, Tryz.ntmps127
  go_wp2_with fail
  refine wp_region_still_tail 10 (by kernel_rfl) (by kernel_rfl) ?_
  simp only [List.take_succ_cons, List.take_zero, List.drop_succ_cons, List.drop_zero, World.drew_eq]
  repeat still_step
  refine wpStill_nil ?_
  go_wp2_with fail
  refine bodyPost_ret (v := .int .i64 0) (by simp [results, Tryz.results127, go_sem]) rfl ?_
  exact sum_fin HM.out HB.out HS.out

set_option maxHeartbeats 1600000 in
theorem l05Sum_92 (m : Mc) (y n k : Int) (M C H : Nat) (w : World) (h : MAt w M C H m) (ha : In32 m.a) (hx : In32 m.x) (hk : In32 k) :
    Calls Tryz.prog 127 #[.pointer (some ⟨M, 0, none⟩), .agg #[.int .i64 92, .int .i64 y, .int .i64 n, .int .i64 k]] w (SumPost m ⟨92, y, n, k⟩ M C H w) := by
  have hb0 := (Below.refl w.heap.size w).alloc (Nat.le_refl _) (.cells #[.int .i64 92, .int .i64 y, .int .i64 n, .int .i64 k] 66)
  have hm0 := h.below hb0
  obtain ⟨c0, c1, _, _⟩ := hm0.cellsM
  have f0 := (hm0.free 0).1
  have HB := Lib.hid hb0
  have HM := Lib.hid hm0
  clear h hb0 hm0
  obtain ⟨v, hv⟩ : ∃ v, bits .and .i64 m.a m.x = v := ⟨_, rfl⟩
  have HS := Lib.hid (show sumA 92 m.a m.x k = w32 v by rw [← hv]; simp [sumA])
  obtain ⟨a, x, cs, hs⟩ := m
  unfold In32 at ha hx hk
  simp only at c0 c1 ha hx hv HS
  go_enter Tryz.func127, Tryz.ntmps127
  go_wp2_with fail
  refine wp_region_still_tail 10 (by kernel_rfl) (by kernel_rfl) ?_
  simp only [List.take_succ_cons, List.take_zero, List.drop_succ_cons, List.drop_zero, World.drew_eq]
  repeat still_step
  refine wpStill_nil ?_
  go_wp2_with fail
  refine bodyPost_ret (v := .int .i64 0) (by simp [results, Tryz.results127, go_sem]) rfl ?_
  exact sum_fin HM.out HB.out HS.out

set_option maxHeartbeats 1600000 in
theorem l05Sum_76 (m : Mc) (y n k : Int) (M C H : Nat) (w : World) (h : MAt w M C H m) (ha : In32 m.a) (hx : In32 m.x) (hk : In32 k) :
    Calls Tryz.prog 127 #[.pointer (some ⟨M, 0, none⟩), .agg #[.int .i64 76, .int .i64 y, .int .i64 n, .int .i64 k]] w (SumPost m ⟨76, y, n, k⟩ M C H w) := by
  have hb0 := (Below.refl w.heap.size w).alloc (Nat.le_refl _) (.cells #[.int .i64 76, .int .i64 y, .int .i64 n, .int .i64 k] 66)
  have hm0 := h.below hb0
  obtain ⟨c0, c1, _, _⟩ := hm0.cellsM
  have f0 := (hm0.free 0).1
  have HB := Lib.hid hb0
  have HM := Lib.hid hm0
  clear h hb0 hm0
  obtain ⟨v, hv⟩ : ∃ v, bits .or .i64 m.a m.x = v := ⟨_, rfl⟩
  have HS := Lib.hid (show sumA 76 m.a m.x k = w32 v by rw [← hv]; simp [sumA])
  obtain ⟨a, x, cs, hs⟩ := m
  unfold In32 at ha hx hk
  simp only at c0 c1 ha hx hv HS
  go_enter Tryz.func127, Tryz.ntmps127
  go_wp2_with fail
  refine wp_region_still_tail 10 (by kernel_rfl) (by kernel_rfl) ?_
  simp only [List.take_succ_cons, List.take_zero, List.drop_succ_cons, List.drop_zero, World.drew_eq]
  repeat still_step
  refine wpStill_nil ?_
  go_wp2_with fail
  refine bodyPost_ret (v := .int .i64 0) (by simp [results, Tryz.results127, go_sem]) rfl ?_
  exact sum_fin HM.out HB.out HS.out

set_option maxHeartbeats 1600000 in
theorem l05Sum_132 (m : Mc) (y n k : Int) (M C H : Nat) (w : World) (h : MAt w M C H m) (ha : In32 m.a) (hx : In32 m.x) (hk : In32 k) :
    Calls Tryz.prog 127 #[.pointer (some ⟨M, 0, none⟩), .agg #[.int .i64 132, .int .i64 y, .int .i64 n, .int .i64 k]] w (SumPost m ⟨132, y, n, k⟩ M C H w) := by
  have hb0 := (Below.refl w.heap.size w).alloc (Nat.le_refl _) (.cells #[.int .i64 132, .int .i64 y, .int .i64 n, .int .i64 k] 66)
  have hm0 := h.below hb0
  obtain ⟨c0, c1, _, _⟩ := hm0.cellsM
  have f0 := (hm0.free 0).1
  have HB := Lib.hid hb0
  have HM := Lib.hid hm0
  clear h hb0 hm0
  have HS := Lib.hid (show sumA 132 m.a m.x k = w32 (-m.a) by simp [sumA])
  obtain ⟨a, x, cs, hs⟩ := m
  unfold In32 at ha hx hk
  simp only at c0 c1 ha hx HS
  go_enter Tryz.func127, Tryz.ntmps127
  go_wp2_with fail
  refine bodyPost_ret (v := .int .i64 0) (by simp [results, Tryz.results127, go_sem]) rfl ?_
  exact sum_fin' HM.out HB.out HS.out

end Go.Proofs.YtekmnopgaopmlaaGreatDoor

/- Words that reckon and may not: div, the shifts. -/
set_option maxRecDepth 100000
set_option linter.unusedSimpArgs false
set_option linter.unusedVariables false
namespace Go.Proofs.YtekmnopgaopmlaaGreatDoor
open Go.RowKit

theorem w32_wrap64 (n : Int) : w32 (wrap64 n) = w32 n := by
  unfold w32 wrap64
  omega

set_option maxHeartbeats 1600000 in
theorem l05Sum_52 (m : Mc) (y n k : Int) (M C H : Nat) (w : World) (h : MAt w M C H m) (ha : In32 m.a) (hx : In32 m.x) (hk : In32 k) :
    Calls Tryz.prog 127 #[.pointer (some ⟨M, 0, none⟩), .agg #[.int .i64 52, .int .i64 y, .int .i64 n, .int .i64 k]] w (SumPost m ⟨52, y, n, k⟩ M C H w) := by
  have hb0 := (Below.refl w.heap.size w).alloc (Nat.le_refl _) (.cells #[.int .i64 52, .int .i64 y, .int .i64 n, .int .i64 k] 66)
  have hm0 := h.below hb0
  obtain ⟨c0, c1, _, _⟩ := hm0.cellsM
  have f0 := (hm0.free 0).1
  have HB := Lib.hid hb0
  have HM := Lib.hid hm0
  clear h hb0 hm0
  obtain ⟨a, x, cs, hs⟩ := m
  unfold In32 at ha hx hk
  simp only at c0 c1 ha hx
  by_cases hz : k = 0
  · subst hz
    have HS := Lib.hid (show sumA 52 a x 0 = -1 by simp [sumA])
    go_enter Tryz.func127, Tryz.ntmps127
    go_wp2_with fail
    refine bodyPost_ret (v := .int .i64 8) (by simp [results, Tryz.results127, go_sem]) rfl ?_
    exact sum_err HM.out HB.out HS.out
  · have HS := Lib.hid (show sumA 52 a x k = w32 (a / k) by simp [sumA, hz])
    go_enter Tryz.func127, Tryz.ntmps127
    go_wp2_with fail
    refine wp_region_still_tail 8 (by kernel_rfl) (by kernel_rfl) ?_
    simp only [List.take_succ_cons, List.take_zero, List.drop_succ_cons, List.drop_zero, World.drew_eq]
    repeat still_step
    refine wpStill_nil ?_
    go_wp2_with fail
    refine bodyPost_ret (v := .int .i64 0) (by simp [results, Tryz.results127, go_sem]) rfl ?_
    exact sum_fin HM.out HB.out HS.out

set_option maxHeartbeats 1600000 in
theorem l05Sum_100 (m : Mc) (y n k : Int) (M C H : Nat) (w : World) (h : MAt w M C H m) (ha : In32 m.a) (hx : In32 m.x) (hk : In32 k) :
    Calls Tryz.prog 127 #[.pointer (some ⟨M, 0, none⟩), .agg #[.int .i64 100, .int .i64 y, .int .i64 n, .int .i64 k]] w (SumPost m ⟨100, y, n, k⟩ M C H w) := by
  have hb0 := (Below.refl w.heap.size w).alloc (Nat.le_refl _) (.cells #[.int .i64 100, .int .i64 y, .int .i64 n, .int .i64 k] 66)
  have hm0 := h.below hb0
  obtain ⟨c0, c1, _, _⟩ := hm0.cellsM
  have f0 := (hm0.free 0).1
  have HB := Lib.hid hb0
  have HM := Lib.hid hm0
  clear h hb0 hm0
  obtain ⟨a, x, cs, hs⟩ := m
  unfold In32 at ha hx hk
  simp only at c0 c1 ha hx
  by_cases hz : 31 < k
  · have HS := Lib.hid (show sumA 100 a x k = -1 by simp [sumA, hz])
    go_enter Tryz.func127, Tryz.ntmps127
    go_wp2_with fail
    refine bodyPost_ret (v := .int .i64 8) (by simp [results, Tryz.results127, go_sem]) rfl ?_
    exact sum_err HM.out HB.out HS.out
  · have HS := Lib.hid (show sumA 100 a x k = w32 (wrap64 (a * 2 ^ k.toNat)) by rw [w32_wrap64]; simp [sumA, hz])
    go_enter Tryz.func127, Tryz.ntmps127
    go_wp2_with fail
    refine wp_region_still_tail 8 (by kernel_rfl) (by kernel_rfl) ?_
    simp only [List.take_succ_cons, List.take_zero, List.drop_succ_cons, List.drop_zero, World.drew_eq]
    repeat still_step
    refine wpStill_nil ?_
    go_wp2_with fail
    refine bodyPost_ret (v := .int .i64 0) (by simp [results, Tryz.results127, go_sem]) rfl ?_
    exact sum_fin HM.out HB.out HS.out

set_option maxHeartbeats 1600000 in
theorem l05Sum_116 (m : Mc) (y n k : Int) (M C H : Nat) (w : World) (h : MAt w M C H m) (ha : In32 m.a) (hx : In32 m.x) (hk : In32 k) :
    Calls Tryz.prog 127 #[.pointer (some ⟨M, 0, none⟩), .agg #[.int .i64 116, .int .i64 y, .int .i64 n, .int .i64 k]] w (SumPost m ⟨116, y, n, k⟩ M C H w) := by
  have hb0 := (Below.refl w.heap.size w).alloc (Nat.le_refl _) (.cells #[.int .i64 116, .int .i64 y, .int .i64 n, .int .i64 k] 66)
  have hm0 := h.below hb0
  obtain ⟨c0, c1, _, _⟩ := hm0.cellsM
  have f0 := (hm0.free 0).1
  have HB := Lib.hid hb0
  have HM := Lib.hid hm0
  clear h hb0 hm0
  obtain ⟨a, x, cs, hs⟩ := m
  unfold In32 at ha hx hk
  simp only at c0 c1 ha hx
  by_cases hz : 31 < k
  · have HS := Lib.hid (show sumA 116 a x k = -1 by simp [sumA, hz])
    go_enter Tryz.func127, Tryz.ntmps127
    go_wp2_with fail
    refine bodyPost_ret (v := .int .i64 8) (by simp [results, Tryz.results127, go_sem]) rfl ?_
    exact sum_err HM.out HB.out HS.out
  · have HS := Lib.hid (show sumA 116 a x k = w32 (a / 2 ^ k.toNat) by simp [sumA, hz])
    go_enter Tryz.func127, Tryz.ntmps127
    go_wp2_with fail
    refine wp_region_still_tail 8 (by kernel_rfl) (by kernel_rfl) ?_
    simp only [List.take_succ_cons, List.take_zero, List.drop_succ_cons, List.drop_zero, World.drew_eq]
    repeat still_step
    refine wpStill_nil ?_
    go_wp2_with fail
    refine bodyPost_ret (v := .int .i64 0) (by simp [results, Tryz.results127, go_sem]) rfl ?_
    exact sum_fin HM.out HB.out HS.out

end Go.Proofs.YtekmnopgaopmlaaGreatDoor

/- Every word but those that look, leap or end: l05Do of the model. -/
set_option maxRecDepth 100000
set_option linter.unusedSimpArgs false
set_option linter.unusedVariables false
namespace Go.Proofs.YtekmnopgaopmlaaGreatDoor
open Go.RowKit

theorem ins_bd32 {i : Ins} (h : insRight i = true) : In32 i.k ∧ (0 ≤ i.y ∧ i.y ≤ 255) ∧ (0 ≤ i.n ∧ i.n ≤ 255) := by
  unfold insRight isB at h
  simp only [Bool.and_eq_true, decide_eq_true_eq] at h
  unfold In32
  omega
theorem sum_codes {c : Int} (hop : isOp c = true) (h5 : c ≠ 5) (h6 : c ≠ 6) (h22 : c ≠ 22) (hl : looksC c = false) :
    (c = 0 ∨ c = 1 ∨ c = 7 ∨ c = 135) ∨ (c = 96 ∨ c = 97 ∨ c = 2 ∨ c = 3) ∨ c = 32 ∨
    (c = 4 ∨ c = 20 ∨ c = 36 ∨ c = 52 ∨ c = 68 ∨ c = 84 ∨ c = 164 ∨ c = 12 ∨ c = 28 ∨ c = 92 ∨ c = 76 ∨ c = 132 ∨ c = 100 ∨ c = 116) := by
  have key : ∀ c ∈ opCodesL, c ≠ 5 → c ≠ 6 → c ≠ 22 → looksC c = false → (c = 0 ∨ c = 1 ∨ c = 7 ∨ c = 135) ∨ (c = 96 ∨ c = 97 ∨ c = 2 ∨ c = 3) ∨ c = 32 ∨
    (c = 4 ∨ c = 20 ∨ c = 36 ∨ c = 52 ∨ c = 68 ∨ c = 84 ∨ c = 164 ∨ c = 12 ∨ c = 28 ∨ c = 92 ∨ c = 76 ∨ c = 132 ∨ c = 100 ∨ c = 116) := by decide
  exact key c (by simpa [isOp] using hop) h5 h6 h22 hl
theorem l05Sum_any (m : Mc) (c y n k : Int) (M C H : Nat) (w : World) (h : MAt w M C H m) (ha : In32 m.a) (hx : In32 m.x) (hk : In32 k)
    (hc : c = 4 ∨ c = 20 ∨ c = 36 ∨ c = 52 ∨ c = 68 ∨ c = 84 ∨ c = 164 ∨ c = 12 ∨ c = 28 ∨ c = 92 ∨ c = 76 ∨ c = 132 ∨ c = 100 ∨ c = 116) :
    Calls Tryz.prog 127 #[.pointer (some ⟨M, 0, none⟩), .agg #[.int .i64 c, .int .i64 y, .int .i64 n, .int .i64 k]] w (SumPost m ⟨c, y, n, k⟩ M C H w) := by
  rcases hc with rfl | rfl | rfl | rfl | rfl | rfl | rfl | rfl | rfl | rfl | rfl | rfl | rfl | rfl
  · exact l05Sum_4 m y n k M C H w h ha hx hk
  · exact l05Sum_20 m y n k M C H w h ha hx hk
  · exact l05Sum_36 m y n k M C H w h ha hx hk
  · exact l05Sum_52 m y n k M C H w h ha hx hk
  · exact l05Sum_68 m y n k M C H w h ha hx hk
  · exact l05Sum_84 m y n k M C H w h ha hx hk
  · exact l05Sum_164 m y n k M C H w h ha hx hk
  · exact l05Sum_12 m y n k M C H w h ha hx hk
  · exact l05Sum_28 m y n k M C H w h ha hx hk
  · exact l05Sum_92 m y n k M C H w h ha hx hk
  · exact l05Sum_76 m y n k M C H w h ha hx hk
  · exact l05Sum_132 m y n k M C H w h ha hx hk
  · exact l05Sum_100 m y n k M C H w h ha hx hk
  · exact l05Sum_116 m y n k M C H w h ha hx hk
theorem l05Cell_any (m : Mc) (c y n k : Int) (M C H : Nat) (w : World) (h : MAt w M C H m) (hc : m.cells.length = 16) (hh : m.has.length = 16) (hk : In32 k)
    (hcc : c = 96 ∨ c = 97 ∨ c = 2 ∨ c = 3) :
    Calls Tryz.prog 126 #[.pointer (some ⟨M, 0, none⟩), .agg #[.int .i64 c, .int .i64 y, .int .i64 n, .int .i64 k]] w (CellPost m ⟨c, y, n, k⟩ M C H w) := by
  rcases hcc with rfl | rfl | rfl | rfl
  · exact l05Cell_96 m y n k M C H w h hc hh hk
  · exact l05Cell_97 m y n k M C H w h hc hh hk
  · exact l05Cell_2 m y n k M C H w h hc hh hk
  · exact l05Cell_3 m y n k M C H w h hc hh hk
theorem l05Do_any (b : ByteArray) (m : Mc) (c y n k : Int) (M C H : Nat) (w : World) (h : MAt w M C H m) (hok : m.ok) (hb : b.size ≤ maxLen) (hk : In32 k)
    (hop : isOp c = true) (h5 : c ≠ 5) (h6 : c ≠ 6) (h22 : c ≠ 22) (hl : looksC c = false) :
    Calls Tryz.prog 86 #[.pointer (some ⟨M, 0, none⟩), .agg #[.int .i64 c, .int .i64 y, .int .i64 n, .int .i64 k], .string b] w (DoPost b m ⟨c, y, n, k⟩ M C H w) := by
  obtain ⟨ha, hx, hcl, hhl, _⟩ := hok
  rcases sum_codes hop h5 h6 h22 hl with hc | hc | hc | hc
  · exact l05Do_set b m c y n k M C H w h hc
  · exact l05Do_cell b m c y n k M C H w h hc fun W hW => l05Cell_any m c y n k M C H W hW hcl hhl hk hc
  · subst hc
    exact l05Do_load b m y n k M C H w h hb hk
  · exact l05Do_sum b m c y n k M C H w h (by omega) fun W hW => l05Sum_any m c y n k M C H W hW ha hx hk hc

/-- The machine stays one of 32 bits. -/
theorem sumM_ok {m : Mc} {i : Ins} (h : m.ok) : (sumM m i).1.ok := by
  unfold sumM
  split
  · exact h
  · rename_i hz
    refine ⟨?_, h.2⟩
    have : sumA i.c m.a m.x i.k = -1 ∨ ∃ v, sumA i.c m.a m.x i.k = w32 v := by
      have pw : ∀ u, w32 u = -1 ∨ ∃ v, w32 u = w32 v := fun u => .inr ⟨u, rfl⟩
      have pm : (-1 : Int) = -1 ∨ ∃ v, (-1 : Int) = w32 v := .inl rfl
      have pi : ∀ (p : Prop) [Decidable p] (a b : Int), (a = -1 ∨ ∃ v, a = w32 v) → (b = -1 ∨ ∃ v, b = w32 v) → ((if p then a else b) = -1 ∨ ∃ v, (if p then a else b) = w32 v) := by
        intro p _ a b h1 h2
        split
        · exact h1
        · exact h2
      unfold sumA
      repeat' first | exact pw _ | exact pm | refine pi _ _ _ ?_ ?_
    rcases this with e | ⟨v, e⟩
    · omega
    · show In32 (sumA i.c m.a m.x i.k)
      rw [e]; exact w32_in v
theorem cellM_ok {m : Mc} {i : Ins} (h : m.ok) : (cellM m i).1.ok := by
  obtain ⟨ha, hx, hc, hh, hv⟩ := h
  have hg : ∀ j, In32 (m.cells.getD j 0) := by
    intro j
    rw [List.getD_eq_getElem?_getD]
    rcases Nat.lt_or_ge j m.cells.length with hj | hj
    · rw [List.getElem?_eq_getElem hj]; exact hv _ (List.getElem_mem hj)
    · rw [List.getElem?_eq_none hj]; unfold In32; simp
  have hset : ∀ j v, In32 v → ∀ u ∈ m.cells.set j v, In32 u := fun j v hv' u hu => by
    rcases List.mem_or_eq_of_mem_set hu with h | h
    · exact hv u h
    · rw [h]; exact hv'
  unfold cellM
  repeat' split
  · exact ⟨ha, hx, hc, hh, hv⟩
  · exact ⟨ha, hx, by simp [hc], by simp [hh], hset _ _ ha⟩
  · exact ⟨ha, hx, by simp [hc], by simp [hh], hset _ _ hx⟩
  · exact ⟨ha, hx, hc, hh, hv⟩
  · exact ⟨hg _, hx, hc, hh, hv⟩
  · exact ⟨ha, hg _, hc, hh, hv⟩

end Go.Proofs.YtekmnopgaopmlaaGreatDoor

/- A program run, walked in the model: l05Run. -/
set_option maxRecDepth 100000
set_option linter.unusedSimpArgs false
set_option linter.unusedVariables false
namespace Go.Proofs.YtekmnopgaopmlaaGreatDoor
open Go.RowKit

theorem info_i64b : (Tryz.prog.info? 2).map (fun i => (i.zero, i.size, i.bytes)) = some (some (.int .i64 0), 1, 8) := by kernel_rfl
theorem info_boolb : (Tryz.prog.info? 4).map (fun i => (i.zero, i.size, i.bytes)) = some (some (.bool false), 1, 1) := by kernel_rfl
def ints16 : Array Value := #[.int .i64 0, .int .i64 0, .int .i64 0, .int .i64 0, .int .i64 0, .int .i64 0, .int .i64 0, .int .i64 0, .int .i64 0, .int .i64 0, .int .i64 0, .int .i64 0, .int .i64 0, .int .i64 0, .int .i64 0, .int .i64 0]
def bools16 : Array Value := #[.bool false, .bool false, .bool false, .bool false, .bool false, .bool false, .bool false, .bool false, .bool false, .bool false, .bool false, .bool false, .bool false, .bool false, .bool false, .bool false]
theorem make_ints (W : World) : (Instr.makeSlice 40 (.int .i64 16) (.int .i64 16)).run Tryz.prog W = .ok (.slice (some ⟨W.heap.size, 0, none⟩) 16 16) (W.alloc (.cells ints16 2)) := by
  have h := run_make_row' (P := Tryz.prog) 40 2 (.int .i64 0) 8 Tryz.underlying40 info_i64b rfl .i64 .i64 16 (by omega) (by omega) W
  rw [show madeCells #[Value.int .i64 0] 16 = ints16 by kernel_rfl] at h
  exact h
theorem make_bools (W : World) : (Instr.makeSlice 128 (.int .i64 16) (.int .i64 16)).run Tryz.prog W = .ok (.slice (some ⟨W.heap.size, 0, none⟩) 16 16) (W.alloc (.cells bools16 4)) := by
  have h := run_make_row' (P := Tryz.prog) 128 4 (.bool false) 1 Tryz.underlying128 info_boolb rfl .i64 .i64 16 (by omega) (by omega) W
  rw [show madeCells #[Value.bool false] 16 = bools16 by kernel_rfl] at h
  exact h
theorem alloc_new_at (W : World) (cs : Array Value) (T : TypeId) {n : Nat} (h : n = W.heap.size) : (W.alloc (.cells cs T)).heap[n]? = some (.cells cs T (0, 0)) := by subst h; exact heap_alloc_new W (.cells cs T)
theorem mat_new1 {W W1 W2 W3 : World} {n : Nat} (hn : n = W.heap.size) (h1 : W1 = W.alloc (.cells ints16 2)) (h2 : W2 = W1.alloc (.cells bools16 4))
    (h3 : W3 = W2.alloc (.cells #[.int .i64 0, .int .i64 0, .slice (some ⟨n, 0, none⟩) 16 16, .slice (some ⟨n + 1, 0, none⟩) 16 16] 130)) : MAt W3 (n + 1 + 1) n (n + 1) mc0 := by
  subst h3 h2 h1 hn
  exact ⟨alloc_new_at _ _ _ (by simp), row_alloc (row_alloc (alloc_new_at _ _ _ rfl) _) _, row_alloc (alloc_new_at _ _ _ (by simp)) _, by omega, by omega, by omega⟩
theorem mat_new2 {W W1 W2 W3 : World} {n : Nat} (hn : n = W.heap.size) (h1 : W1 = W.alloc (.cells bools16 4)) (h2 : W2 = W1.alloc (.cells ints16 2))
    (h3 : W3 = W2.alloc (.cells #[.int .i64 0, .int .i64 0, .slice (some ⟨n + 1, 0, none⟩) 16 16, .slice (some ⟨n, 0, none⟩) 16 16] 130)) : MAt W3 (n + 1 + 1) (n + 1) n mc0 := by
  subst h3 h2 h1 hn
  exact ⟨alloc_new_at _ _ _ (by simp), row_alloc (alloc_new_at _ _ _ (by simp)) _, row_alloc (row_alloc (alloc_new_at _ _ _ rfl) _) _, by omega, by omega, by omega⟩
/-! One step of the run. -/
theorem runM_end {l : List Ins} {b : ByteArray} {f k : Nat} {m : Mc} {st : Nat} (h : l.length ≤ k) : runM l b (f + 1) k m st = ⟨0, st, 4⟩ := by
  simp [runM, h]
theorem runM_noop {l : List Ins} {b : ByteArray} {f k : Nat} {m : Mc} {st : Nat} {i : Ins} (hi : l[k]? = some i) (h : isOp i.c = false) : runM l b (f + 1) k m st = ⟨0, (st + 1 : Nat), 3⟩ := by
  simp [runM, hi, h]
theorem runM_ret {l : List Ins} {b : ByteArray} {f k : Nat} {m : Mc} {st : Nat} {i : Ins} (hi : l[k]? = some i) (h : i.c = 6) : runM l b (f + 1) k m st = ⟨i.k, (st + 1 : Nat), 0⟩ := by
  simp [runM, hi, h, show isOp 6 = true by decide]
theorem runM_retA {l : List Ins} {b : ByteArray} {f k : Nat} {m : Mc} {st : Nat} {i : Ins} (hi : l[k]? = some i) (h : i.c = 22) : runM l b (f + 1) k m st = ⟨m.a, (st + 1 : Nat), 0⟩ := by
  simp [runM, hi, h, show isOp 22 = true by decide]
theorem runM_jump {l : List Ins} {b : ByteArray} {f k : Nat} {m : Mc} {st : Nat} {i : Ins} (hi : l[k]? = some i) (h : i.c = 5) : runM l b (f + 1) k m st = runM l b f (k + i.k.toNat + 1) m (st + 1) := by
  simp [runM, hi, h, show isOp 5 = true by decide]
theorem runM_look {l : List Ins} {b : ByteArray} {f k : Nat} {m : Mc} {st : Nat} {i : Ins} (hi : l[k]? = some i) (ho : isOp i.c = true) (h5 : i.c ≠ 5) (h6 : i.c ≠ 6) (h22 : i.c ≠ 22) (h : looksC i.c = true) :
    runM l b (f + 1) k m st = runM l b f (k + (if lookM m i then i.y else i.n).toNat + 1) m (st + 1) := by
  simp [runM, hi, ho, h5, h6, h22, h]
theorem runM_do {l : List Ins} {b : ByteArray} {f k : Nat} {m : Mc} {st : Nat} {i : Ins} (hi : l[k]? = some i) (ho : isOp i.c = true) (h5 : i.c ≠ 5) (h6 : i.c ≠ 6) (h22 : i.c ≠ 22) (h : looksC i.c = false) (hd : (doM b m i).2 = 0) :
    runM l b (f + 1) k m st = runM l b f (k + 1) (doM b m i).1 (st + 1) := by
  simp [runM, hi, ho, h5, h6, h22, h, hd]
theorem runM_err {l : List Ins} {b : ByteArray} {f k : Nat} {m : Mc} {st : Nat} {i : Ins} (hi : l[k]? = some i) (ho : isOp i.c = true) (h5 : i.c ≠ 5) (h6 : i.c ≠ 6) (h22 : i.c ≠ 22) (h : looksC i.c = false) (hd : (doM b m i).2 ≠ 0) :
    runM l b (f + 1) k m st = ⟨0, (st + 1 : Nat), (doM b m i).2⟩ := by
  simp [runM, hi, ho, h5, h6, h22, h, hd]
theorem leV_in {l : List UInt8} (h : l.length = 4) : In32 (leV l) := by
  match l, h with
  | [a, b, c, d], _ =>
    have := a.toNat_lt; have := b.toNat_lt; have := c.toNat_lt; have := d.toNat_lt
    unfold In32; simp only [leV]; omega
theorem loadB_in {b : ByteArray} {k : Int} (h : ¬ loadB b k < 0) : In32 (loadB b k) := by
  by_cases hc : b.size = 64 ∧ 0 ≤ k ∧ k ≤ 60 ∧ k % 4 = 0
  · rw [loadB_yes hc]
    refine leV_in ?_
    exact bytesAt_length (by omega)
  · rw [loadB_no hc] at h; omega
theorem doM_ok {b : ByteArray} {m : Mc} {i : Ins} (h : m.ok) (hk : In32 i.k) : (doM b m i).1.ok := by
  unfold doM
  split
  · split
    · exact h
    · rename_i hz; exact ⟨loadB_in hz, h.2⟩
  split
  · exact ⟨hk, h.2⟩
  split
  · exact ⟨h.1, hk, h.2.2⟩
  split
  · exact ⟨h.1, h.1, h.2.2⟩
  split
  · exact ⟨h.2.1, h.2.1, h.2.2⟩
  split
  · exact cellM_ok h
  · exact sumM_ok h

theorem mc0_ok : mc0.ok := by unfold Mc.ok mc0 In32; simp
/-- What the run's loop keeps of memory: the machine, the answer in the making, the result's place, and all that was. -/
structure RunW (w : World) (M C H O R : Nat) (m : Mc) (r st cd : Int) (x : World) : Prop where
  mat : MAt x M C H m
  out : x.heap[O]? = some (.cells #[.int .i64 r, .int .i64 st, .int .i64 cd] 44 (0, 0))
  res : x.heap[R]? = some (.cells #[.int .i64 0, .int .i64 0, .int .i64 0] 44 (0, 0))
  bel : Below w.heap.size w x
  neO : O ≠ M ∧ O ≠ C ∧ O ≠ H
  neR : R ≠ M ∧ R ≠ C ∧ R ≠ H ∧ R ≠ O
  ge : w.heap.size ≤ O ∧ w.heap.size ≤ R ∧ w.heap.size ≤ M ∧ w.heap.size ≤ C ∧ w.heap.size ≤ H
section
variable {w x x' : World} {M C H O R : Nat} {m : Mc} {r st cd : Int}
theorem RunW.below (h : RunW w M C H O R m r st cd x) (hb : Below x.heap.size x x') : RunW w M C H O R m r st cd x' :=
  ⟨h.mat.below hb, (hb.block _ (row_here h.out)).trans h.out, (hb.block _ (row_here h.res)).trans h.res, h.bel.trans (hb.mono h.bel.size), h.neO, h.neR, h.ge⟩
theorem RunW.alloc (h : RunW w M C H O R m r st cd x) (o : Obj) : RunW w M C H O R m r st cd (x.alloc o) := h.below ((Below.refl _ _).alloc (Nat.le_refl _) o)
theorem RunW.keep (h : RunW w M C H O R m r st cd x) {m' : Mc} (hm : MAt x' M C H m') (hk : KeepM M C H x x') : RunW w M C H O R m' r st cd x' :=
  ⟨hm, (hk.block _ (row_here h.out) h.neO.1 h.neO.2.1 h.neO.2.2).trans h.out, (hk.block _ (row_here h.res) h.neR.1 h.neR.2.1 h.neR.2.2.1).trans h.res,
    KeepM.below h.bel hk h.ge.2.2.1 h.ge.2.2.2.1 h.ge.2.2.2.2 h.bel.size, h.neO, h.neR, h.ge⟩
theorem MAt.other {x : World} (h : MAt x M C H m) {O : Nat} (hO : O ≠ M ∧ O ≠ C ∧ O ≠ H) (i : Nat) (v : Value) : MAt (x.setCell ⟨O, i, none⟩ v) M C H m :=
  ⟨row_other h.1 i v (Ne.symm hO.1), row_other h.2.1 i v (Ne.symm hO.2.1), row_other h.2.2.1 i v (Ne.symm hO.2.2), h.2.2.2⟩
theorem RunW.setR (h : RunW w M C H O R m r st cd x) (v : Int) : RunW w M C H O R m v st cd (x.setCell ⟨O, 0, none⟩ (.int .i64 v)) := by
  have hr := row_put h.out 0 (.int .i64 v)
  simp only [List.setIfInBounds_toArray, List.set_cons_zero, List.set_cons_succ] at hr
  exact ⟨h.mat.other h.neO _ _, hr, row_other h.res 0 _ h.neR.2.2.2, h.bel.setCell h.ge.1 _, h.neO, h.neR, h.ge⟩
theorem RunW.setS (h : RunW w M C H O R m r st cd x) (v : Int) : RunW w M C H O R m r v cd (x.setCell ⟨O, 1, none⟩ (.int .i64 v)) := by
  have hr := row_put h.out 1 (.int .i64 v)
  simp only [List.setIfInBounds_toArray, List.set_cons_zero, List.set_cons_succ] at hr
  exact ⟨h.mat.other h.neO _ _, hr, row_other h.res 1 _ h.neR.2.2.2, h.bel.setCell h.ge.1 _, h.neO, h.neR, h.ge⟩
theorem RunW.setC (h : RunW w M C H O R m r st cd x) (v : Int) : RunW w M C H O R m r st v (x.setCell ⟨O, 2, none⟩ (.int .i64 v)) := by
  have hr := row_put h.out 2 (.int .i64 v)
  simp only [List.setIfInBounds_toArray, List.set_cons_zero, List.set_cons_succ] at hr
  exact ⟨h.mat.other h.neO _ _, hr, row_other h.res 2 _ h.neR.2.2.2, h.bel.setCell h.ge.1 _, h.neO, h.neR, h.ge⟩
theorem RunW.cells (h : RunW w M C H O R m r st cd x) : x.cell? ⟨O, 0, none⟩ = some (.int .i64 r) ∧ x.cell? ⟨O, 1, none⟩ = some (.int .i64 st) ∧ x.cell? ⟨O, 2, none⟩ = some (.int .i64 cd) := by
  have c0 := row_cell h.out 0
  have c1 := row_cell h.out 1
  have c2 := row_cell h.out 2
  simp only [List.getElem?_toArray, List.getElem?_cons_zero, List.getElem?_cons_succ] at c0 c1 c2
  exact ⟨c0, c1, c2⟩
theorem RunW.res3 (h : RunW w M C H O R m r st cd x) : x.cell? ⟨R, 0, none⟩ = some (.int .i64 0) ∧ x.cell? ⟨R, 1, none⟩ = some (.int .i64 0) ∧ x.cell? ⟨R, 2, none⟩ = some (.int .i64 0) := by
  have c0 := row_cell h.res 0
  have c1 := row_cell h.res 1
  have c2 := row_cell h.res 2
  simp only [List.getElem?_toArray, List.getElem?_cons_zero, List.getElem?_cons_succ] at c0 c1 c2
  exact ⟨c0, c1, c2⟩
theorem RunW.free (h : RunW w M C H O R m r st cd x) (i : Nat) : x.frozen? ⟨O, i, none⟩ = false ∧ x.frozen? ⟨R, i, none⟩ = false := ⟨frozen_row h.out i, frozen_row h.res i⟩
theorem RunW.lt (h : RunW w M C H O R m r st cd x) : O < x.heap.size ∧ R < x.heap.size ∧ M < x.heap.size := ⟨row_here h.out, row_here h.res, row_here h.mat.1⟩
theorem RunW.fin (h : RunW w M C H O R m r st cd x) (a b c : Value) : Below w.heap.size w (((x.setCell ⟨R, 0, none⟩ a).setCell ⟨R, 1, none⟩ b).setCell ⟨R, 2, none⟩ c) :=
  ((h.bel.setCell h.ge.2.1 _).setCell h.ge.2.1 _).setCell h.ge.2.1 _
end

set_option maxHeartbeats 6400000 in
theorem l05Run_any (v : Value) (l : List Ins) (b : ByteArray) (w : World) (h : InsAt w w.heap.size v l) (hl : allOk l = true) (hb : b.size ≤ maxLen) :
    Calls Tryz.prog 55 #[v, .string b] w fun e w' => e = .returned (.agg #[.int .i64 (runM l b (l.length + 1) 0 mc0 0).ret, .int .i64 (runM l b (l.length + 1) 0 mc0 0).steps, .int .i64 (runM l b (l.length + 1) 0 mc0 0).code]) ∧ Below w.heap.size w w' := by
  have hlen : l.length ≤ 400 := by unfold allOk at hl; simp at hl; exact hl.1
  have hri : ∀ x ∈ l, insRight x = true := by unfold allOk at hl; simp at hl; exact hl.2
  obtain ⟨a, cap, rfl, hlc, hcm⟩ := h.len
  unfold maxLen at hcm
  have HH := Lib.hid h
  have HRI := Lib.hid hri
  have HBS := Lib.hid hb
  have mk1 := make_ints
  have mk2 := make_bools
  clear h hl hri hb
  go_enter Tryz.func55, Tryz.ntmps55
  go_upto_region 1 with fail
  go_cut [5] from 10 to 13 (fun p ws => ∃ M C H, p = .pointer (some ⟨M, 0, none⟩) ∧ MAt ws M C H mc0 ∧ w.heap.size < M ∧ w.heap.size < C ∧ w.heap.size < H ∧ Below (w.alloc (.cells #[.int .i64 0, .int .i64 0, .int .i64 0] 44)).heap.size (w.alloc (.cells #[.int .i64 0, .int .i64 0, .int .i64 0] 44)) ws)
  case first =>
    go_region
    all_goals
      go_wp2_with fail
      go_meet
      first
        | exact ⟨_, _, _, rfl, (mat_new1 (n := w.heap.size + 1) (W := w.alloc (.cells #[.int .i64 0, .int .i64 0, .int .i64 0] 44)) (by simp) rfl rfl rfl).drew, by omega, by omega, by omega, ((((Below.refl _ _).alloc (Nat.le_refl _) _).alloc (by simp) _).alloc (by simp) _).drew⟩
        | exact ⟨_, _, _, rfl, (mat_new2 (n := w.heap.size + 1) (W := w.alloc (.cells #[.int .i64 0, .int .i64 0, .int .i64 0] 44)) (by simp) rfl rfl rfl).drew, by omega, by omega, by omega, ((((Below.refl _ _).alloc (Nat.le_refl _) _).alloc (by simp) _).alloc (by simp) _).drew⟩
  case rest =>
  obtain ⟨M, C, H, rfl, hm, hM, hC, hH, hb1⟩ := hcut
  have hlM := row_here hm.1
  have hlC := row_here hm.2.1
  have hlH := row_here hm.2.2.1
  have hsz : w.heap.size + 1 ≤ wc.heap.size := by have := hb1.size; simpa using this
  have HW0 := Lib.hid (show RunW w M C H wc.heap.size w.heap.size mc0 0 0 0 (wc.alloc (.cells #[.int .i64 0, .int .i64 0, .int .i64 0] 44)) from
    ⟨hm.below ((Below.refl _ _).alloc (Nat.le_refl _) _), alloc_new_at _ _ _ rfl, row_alloc ((hb1.block _ (by simp)).trans (alloc_new_at _ _ _ rfl)) _,
      (box_below hb1).alloc (box_below hb1).size _, by omega, by omega, by omega⟩)
  clear hm hb1
  go_wp2_with fail
  go_loopg [7] l.length (fun g s wx => ∃ (k st : Nat) (m : Mc), s = .int .i64 k ∧ k ≤ 5000000000 ∧ l.length ≤ k + g ∧ st + g = l.length ∧ Aside (m.ok ∧ RunW w M C H wc.heap.size w.heap.size m 0 st 0 wx ∧ runM l b (l.length + 1) 0 mc0 0 = runM l b (g + 1) k m st))
  case atStart => exact ⟨0, 0, mc0, rfl, by omega, by omega, by omega, mc0_ok, HW0.out, rfl⟩
  case round =>
    obtain ⟨k, st, m, rfl, hk, hkg, hsg, hx⟩ := hrel
    have HX := Lib.hid hx
    clear hx
    by_cases hlt : k < l.length
    · cases gk with
      | zero => omega
      | succ g =>
      obtain ⟨x, hx⟩ : ∃ x, l[k]? = some x := ⟨l[k], List.getElem?_eq_getElem hlt⟩
      obtain ⟨hok, hW, hrun⟩ := HX.out
      have hbd := ins_bd32 (HRI.out x (List.mem_of_getElem? hx))
      obtain ⟨bb, oo, e, hbb, c0', c1', c2', c3', _⟩ := HH.out.at_ hx
      subst e
      have c0 := (hW.bel.cell (p := ⟨bb, oo + k * 4, none⟩) hbb).trans c0'
      have c1 := (hW.bel.cell (p := ⟨bb, oo + k * 4 + 1, none⟩) hbb).trans c1'
      have c2 := (hW.bel.cell (p := ⟨bb, oo + k * 4 + 2, none⟩) hbb).trans c2'
      have c3 := (hW.bel.cell (p := ⟨bb, oo + k * 4 + 3, none⟩) hbb).trans c3'
      clear c0' c1' c2' c3' HX
      obtain ⟨xc, xy, xn, xk⟩ := x
      simp only at c0 c1 c2 c3 hbd
      obtain ⟨hkk, hyy, hnn⟩ := hbd
      have HKK := Lib.hid hkk
      unfold In32 at hkk
      have hz : decide (k < l.length) = true := decide_eq_true hlt
      have hlW := hW.lt
      have hW1 := hW.alloc (.cells #[.int .i64 xc, .int .i64 xy, .int .i64 xn, .int .i64 xk] 66)
      obtain ⟨b0, b1, b2⟩ := hW1.cells
      have g1 := (hW1.free 1).1
      have hXO : wr.heap.size ≠ wc.heap.size := by omega
      have HW2 := Lib.hid ((hW.setS (st + 1)).alloc (.cells #[.int .i64 xc, .int .i64 xy, .int .i64 xn, .int .i64 xk] 66))
      have HX2 := Lib.hid (alloc_new_at (wr.setCell ⟨wc.heap.size, 1, none⟩ (.int .i64 (st + 1))) #[.int .i64 xc, .int .i64 xy, .int .i64 xn, .int .i64 xk] 66 (n := wr.heap.size) (by simp [World.setCell]))
      have he := isOp_empty xc
      have QO := Lib.hid (fun W => specOpName_any xc W)
      generalize opNameOf xc = nm at *
      have HIX := Lib.hid hx
      have HOK := Lib.hid hok
      have HRUN := Lib.hid hrun
      have hst : (st : Int) ≤ 400 := by omega
      clear hW hW1 hx hok hrun
      cases ho : isOp xc <;> rw [ho] at he
      · have HR := Lib.hid (HRUN.out.trans (runM_noop HIX.out ho))
        simp only [Bool.not_false] at he
        clear ho
        go_wp2_with fail
        refine (QO.out _).mono ?_
        rintro e w3 ⟨rfl, hb3⟩
        have hW3 := HW2.out.below hb3
        obtain ⟨b0, b1, b2⟩ := hW3.cells
        have g2 := (hW3.free 2).1
        have hW4 := hW3.setC 3
        obtain ⟨d0, d1, d2⟩ := hW4.cells
        obtain ⟨e0, e1, e2⟩ := hW4.res3
        have f0 := (hW4.free 0).2
        have f1 := (hW4.free 1).2
        have f2 := (hW4.free 2).2
        have hOR : w.heap.size ≠ wc.heap.size := by omega
        have hRO : wc.heap.size ≠ w.heap.size := by omega
        have HW := Lib.hid hW4
        clear hb3 hW3 hW4
        go_wp2_with fail
        exact bodyPost_ret (v := .agg #[.int .i64 0, .int .i64 (st + 1), .int .i64 3]) (by simp [results, Tryz.results55, go_sem, d0, d1, d2, e0, e1, e2, f0, f1, f2, hOR, hRO]) rfl ⟨by rw [HR.out]; rfl, HW.out.fin _ _ _⟩
      simp only [Bool.not_true] at he
      go_wp2_with fail
      refine (QO.out _).mono ?_
      rintro e w3 ⟨rfl, hb3⟩
      have hW3 := HW2.out.below hb3
      have hX3 := (hb3.block _ (row_here HX2.out)).trans HX2.out
      have x0 := row_cell hX3 0
      have x1 := row_cell hX3 1
      have x2 := row_cell hX3 2
      have x3 := row_cell hX3 3
      simp only [List.getElem?_toArray, List.getElem?_cons_zero, List.getElem?_cons_succ] at x0 x1 x2 x3
      have HX3 := Lib.hid hX3
      have HW3 := Lib.hid hW3
      obtain ⟨b0, b1, b2⟩ := hW3.cells
      have g0 := (hW3.free 0).1
      have g1 := (hW3.free 1).1
      have g2 := (hW3.free 2).1
      have hOR : w.heap.size ≠ wc.heap.size := by omega
      have hRO : wc.heap.size ≠ w.heap.size := by omega
      clear hb3 hW3 hX3
      by_cases h6 : xc = 6
      · have HR := Lib.hid (HRUN.out.trans (runM_ret HIX.out h6))
        subst h6
        have hW4 := HW3.out.setR xk
        obtain ⟨d0, d1, d2⟩ := hW4.cells
        obtain ⟨e0, e1, e2⟩ := hW4.res3
        have f0 := (hW4.free 0).2
        have f1 := (hW4.free 1).2
        have f2 := (hW4.free 2).2
        have HW := Lib.hid hW4
        clear hW4
        go_wp2_with fail
        exact bodyPost_ret (v := .agg #[.int .i64 xk, .int .i64 (st + 1), .int .i64 0]) (by simp [results, Tryz.results55, go_sem, d0, d1, d2, e0, e1, e2, f0, f1, f2, hOR, hRO]) rfl ⟨by rw [HR.out]; rfl, HW.out.fin _ _ _⟩
      by_cases h22 : xc = 22
      · have HR := Lib.hid (HRUN.out.trans (runM_retA HIX.out h22))
        subst h22
        have hW4 := HW3.out.setR xk
        have m0 := hW4.mat.cellsM.1
        have y0 := hW4.cells
        obtain ⟨y0, y1, y2⟩ := y0
        have fy := (hW4.free 0).1
        have hW5 := hW4.setR m.a
        obtain ⟨d0, d1, d2⟩ := hW5.cells
        obtain ⟨e0, e1, e2⟩ := hW5.res3
        have f0 := (hW5.free 0).2
        have f1 := (hW5.free 1).2
        have f2 := (hW5.free 2).2
        have HW := Lib.hid hW5
        have hMO : M ≠ wc.heap.size := by omega
        have hOM : wc.heap.size ≠ M := by omega
        clear hW4 hW5
        go_wp2_with fail
        exact bodyPost_ret (v := .agg #[.int .i64 m.a, .int .i64 (st + 1), .int .i64 0]) (by simp [results, Tryz.results55, go_sem, d0, d1, d2, e0, e1, e2, f0, f1, f2, hOR, hRO]) rfl ⟨by rw [HR.out]; rfl, HW.out.fin _ _ _⟩
      have t6 : (xc == 6) = false := by simpa using h6
      have t22 : (xc == 22) = false := by simpa using h22
      by_cases h5 : xc = 5
      · have HR := Lib.hid (HRUN.out.trans (runM_jump HIX.out h5))
        subst h5
        go_wp2_with fail
        go_roundg g
        case measure => omega
        case rel => exact ⟨k + xk.toNat + 1, st + 1, m, by rw [show ((k + xk.toNat + 1 : Nat) : Int) = k + xk + 1 by omega], by omega, by omega, by omega, HOK.out, HW3.out, HR.out⟩
      have t5 : (xc == 5) = false := by simpa using h5
      have QL := Lib.hid (fun W => l02Looks_any xc W)
      cases hl : looksC xc <;> rw [hl] at QL
      · have QD := Lib.hid (l05Do_any b m xc xy xn xk M C H w3 HW3.out.mat HOK.out HBS.out HKK.out ho h5 h6 h22 hl)
        have hdok := doM_ok (b := b) (m := m) (i := ⟨xc, xy, xn, xk⟩) HOK.out HKK.out
        obtain ⟨mm, dc, hd⟩ : ∃ mm dc, doM b m ⟨xc, xy, xn, xk⟩ = (mm, dc) := ⟨_, _, rfl⟩
        have QD' := QD.out
        unfold DoPost at QD'
        simp only [hd] at QD' hdok
        have HQ := Lib.hid QD'
        have HDOK := Lib.hid hdok
        clear QD QD' hdok
        by_cases hdc : dc = 0
        · have HR := Lib.hid (HRUN.out.trans (runM_do HIX.out ho h5 h6 h22 hl (by rw [hd]; exact hdc)))
          rw [hd] at HR
          clear hd ho h5 h6 h22 hl
          subst hdc
          go_wp2_with fail
          refine (QL.out _).mono ?_
          rintro e w4 ⟨rfl, rfl⟩
          go_wp2_with fail
          refine HQ.out.mono ?_
          rintro e w4 ⟨rfl, hm4, hk4⟩
          have HW4 := Lib.hid (HW3.out.keep hm4 hk4)
          clear hm4 hk4
          go_wp2_with fail
          go_roundg g
          case measure => omega
          case rel => exact ⟨k + 1, st + 1, mm, by go_num, by omega, by omega, by omega, HDOK.out, HW4.out, HR.out⟩
        · have HR := Lib.hid (HRUN.out.trans (runM_err HIX.out ho h5 h6 h22 hl (by rw [hd]; exact hdc)))
          rw [hd] at HR
          have td : (dc != 0) = true := by simpa using hdc
          clear hd ho h5 h6 h22 hl
          go_wp2_with fail
          refine (QL.out _).mono ?_
          rintro e w4 ⟨rfl, rfl⟩
          go_wp2_with fail
          refine HQ.out.mono ?_
          rintro e w4 ⟨rfl, hm4, hk4⟩
          have hW4 := HW3.out.keep hm4 hk4
          obtain ⟨b0, b1, b2⟩ := hW4.cells
          have g2 := (hW4.free 2).1
          have hW5 := hW4.setC dc
          obtain ⟨d0, d1, d2⟩ := hW5.cells
          obtain ⟨e0, e1, e2⟩ := hW5.res3
          have f0 := (hW5.free 0).2
          have f1 := (hW5.free 1).2
          have f2 := (hW5.free 2).2
          have HW := Lib.hid hW5
          clear hm4 hk4 hW4 hW5
          go_wp2_with fail
          exact bodyPost_ret (v := .agg #[.int .i64 0, .int .i64 (st + 1), .int .i64 dc]) (by simp [results, Tryz.results55, go_sem, d0, d1, d2, e0, e1, e2, f0, f1, f2, hOR, hRO]) rfl ⟨by rw [HR.out]; rfl, HW.out.fin _ _ _⟩
      · have QD := Lib.hid (l05Look_any m xc xy xn xk M C H w3 HW3.out.mat hl)
        have HR := Lib.hid (HRUN.out.trans (runM_look HIX.out ho h5 h6 h22 hl))
        clear ho h5 h6 h22 hl
        simp only at HR
        cases hq : lookM m ⟨xc, xy, xn, xk⟩ <;> rw [hq] at QD HR
        all_goals
          clear hq
          go_wp2_with fail
          refine (QL.out _).mono ?_
          rintro e w4 ⟨rfl, rfl⟩
          go_wp2_with fail
          refine QD.out.mono ?_
          rintro e w4 ⟨rfl, hb4⟩
          have hX4 := (hb4.block _ (row_here HX3.out)).trans HX3.out
          have y1 := row_cell hX4 1
          have y2 := row_cell hX4 2
          simp only [List.getElem?_toArray, List.getElem?_cons_zero, List.getElem?_cons_succ] at y1 y2
          have HW4 := Lib.hid (HW3.out.below hb4)
          clear hb4 hX4
          go_wp2_with fail
          go_roundg g
          case measure => omega
          first
            | case rel => exact ⟨k + xn.toNat + 1, st + 1, m, by rw [show ((k + xn.toNat + 1 : Nat) : Int) = k + xn + 1 by omega], by omega, by omega, by omega, HOK.out, HW4.out, HR.out⟩
            | case rel => exact ⟨k + xy.toNat + 1, st + 1, m, by rw [show ((k + xy.toNat + 1 : Nat) : Int) = k + xy + 1 by omega], by omega, by omega, by omega, HOK.out, HW4.out, HR.out⟩
    · have hz : decide (k < l.length) = false := decide_eq_false hlt
      obtain ⟨_, hW, hrun⟩ := HX.out
      have hE := runM_end (b := b) (f := gk) (m := m) (st := st) (show l.length ≤ k by omega)
      rw [hE] at hrun
      clear hE
      have HR := Lib.hid hrun
      obtain ⟨b0, b1, b2⟩ := hW.cells
      obtain ⟨d0, d1, d2⟩ := (hW.setC 4).cells
      obtain ⟨e0, e1, e2⟩ := (hW.setC 4).res3
      have f0 := ((hW.setC 4).free 0).2
      have f1 := ((hW.setC 4).free 1).2
      have f2 := ((hW.setC 4).free 2).2
      have g2 := (hW.free 2).1
      have hOR : w.heap.size ≠ wc.heap.size := by omega
      have hRO : wc.heap.size ≠ w.heap.size := by omega
      have HW := Lib.hid (hW.setC 4)
      clear hW hrun
      go_wp2_with fail
      exact bodyPost_ret (v := .agg #[.int .i64 0, .int .i64 st, .int .i64 4]) (by simp [results, Tryz.results55, go_sem, d0, d1, d2, e0, e1, e2, f0, f1, f2, hOR, hRO]) rfl ⟨by rw [HR.out], HW.out.fin _ _ _⟩

end Go.Proofs.YtekmnopgaopmlaaGreatDoor

/- Run of the model, walked. -/
set_option maxRecDepth 100000
set_option linter.unusedSimpArgs false
set_option linter.unusedVariables false
namespace Go.Proofs.YtekmnopgaopmlaaGreatDoor
open Go.RowKit

def ansV (a : Ans) : Value := .agg #[.int .i64 a.ret, .int .i64 a.steps, .int .i64 a.code]
theorem runL_size {l : List Ins} {b : ByteArray} (h : 400 < l.length ∨ 8000 < b.size) : runL l b = ⟨0, 0, 2⟩ := by unfold runL; rw [if_pos h]
theorem runL_form {l : List Ins} {b : ByteArray} (h1 : l.length ≤ 400) (h2 : b.size ≤ 8000) (h : b.size ≠ 64 ∨ allOk l = false) : runL l b = ⟨0, 0, 1⟩ := by unfold runL; rw [if_neg (by omega), if_pos h]
theorem runL_ok {l : List Ins} {b : ByteArray} (h1 : l.length ≤ 400) (h : b.size = 64) (h3 : allOk l = true) : runL l b = runM l b (l.length + 1) 0 mc0 0 := by unfold runL; rw [if_neg (by omega), if_neg (by simp [h, h3])]

set_option maxHeartbeats 3200000 in
theorem specRun_any (v : Value) (l : List Ins) (b : ByteArray) (w : World) (h : InsAt w w.heap.size v l) (hb : b.size ≤ maxLen) (hll : l.length ≤ 1048576) :
    Calls Tryz.prog 18 #[v, .string b] w fun e w' => e = .returned (ansV (runL l b)) ∧ Below w.heap.size w w' := by
  obtain ⟨a, cap, rfl, hlc, hcm⟩ := h.len
  unfold maxLen at hcm
  have HBS := Lib.hid hb
  unfold maxLen at hb
  have HH := Lib.hid h
  have hr0 : (w.alloc (.cells #[.int .i64 0, .int .i64 0, .int .i64 0] 44)).heap[w.heap.size]? = some (.cells #[.int .i64 0, .int .i64 0, .int .i64 0] 44 (0, 0)) := alloc_new_at _ _ _ rfl
  have f0 := frozen_row hr0 0
  have f1 := frozen_row hr0 1
  have f2 := frozen_row hr0 2
  have HB0 := Lib.hid ((Below.refl w.heap.size w).alloc (Nat.le_refl _) (.cells #[.int .i64 0, .int .i64 0, .int .i64 0] 44))
  clear h hr0
  by_cases h4 : 400 < l.length
  · have HR := Lib.hid (runL_size (b := b) (.inl h4))
    have z1 : decide ((400 : Int) < (l.length : Int)) = true := decide_eq_true (by omega)
    go_enter Tryz.func18, Tryz.ntmps18
    go_wp2_with fail
    exact bodyPost_ret (v := .agg #[.int .i64 0, .int .i64 0, .int .i64 2]) (by simp [results, Tryz.results18, go_sem]) rfl ⟨by rw [HR.out]; rfl, (Below.refl _ _).alloc (Nat.le_refl _) _⟩
  have z1 : decide ((400 : Int) < (l.length : Int)) = false := decide_eq_false (by omega)
  by_cases h8 : 8000 < b.size
  · have HR := Lib.hid (runL_size (l := l) (.inr h8))
    have z2 : decide ((8000 : Int) < (b.size : Int)) = true := decide_eq_true (by omega)
    go_enter Tryz.func18, Tryz.ntmps18
    go_wp2_with fail
    exact bodyPost_ret (v := .agg #[.int .i64 0, .int .i64 0, .int .i64 2]) (by simp [results, Tryz.results18, go_sem]) rfl ⟨by rw [HR.out]; rfl, (Below.refl _ _).alloc (Nat.le_refl _) _⟩
  have z2 : decide ((8000 : Int) < (b.size : Int)) = false := decide_eq_false (by omega)
  by_cases h64 : b.size = 64
  · have z3 : ((b.size : Int) != 64) = false := by simp [h64]
    have HP := Lib.hid (l02Prog_any _ l _ (HH.out.below HB0.out |>.up HB0.out.size))
    have HS := Lib.hid h64
    clear h64
    cases hal : allOk l <;> rw [hal] at HP
    · have HR := Lib.hid (runL_form (l := l) (b := b) (by omega) (by omega) (.inr hal))
      clear hal
      go_enter Tryz.func18, Tryz.ntmps18
      go_wp2_with fail
      refine HP.out.mono ?_
      rintro e w1 ⟨rfl, hb1⟩
      have d0 := box_cell hb1 0
      have d1 := box_cell hb1 1
      have d2 := box_cell hb1 2
      have f0 := box_free hb1 0
      have f1 := box_free hb1 1
      have f2 := box_free hb1 2
      simp only [List.getElem?_toArray, List.getElem?_cons_zero, List.getElem?_cons_succ] at d0 d1 d2
      have HB := Lib.hid (box_below hb1)
      clear hb1
      go_wp2_with fail
      exact bodyPost_ret (v := .agg #[.int .i64 0, .int .i64 0, .int .i64 1]) (by simp [results, Tryz.results18, go_sem, d0, d1, d2, f0, f1, f2]) rfl ⟨by rw [HR.out]; rfl, ((HB.out.setCell (Nat.le_refl _) _).setCell (Nat.le_refl _) _).setCell (Nat.le_refl _) _⟩
    · have HR := Lib.hid (runL_ok (l := l) (b := b) (by omega) HS.out hal)
      have QR := Lib.hid (fun W (h : Below w.heap.size w W) => l05Run_any _ l b W ((HH.out.below h).up h.size) hal HBS.out)
      generalize runM l b (l.length + 1) 0 mc0 0 = ans at *
      clear hal
      go_enter Tryz.func18, Tryz.ntmps18
      go_wp2_with fail
      refine HP.out.mono ?_
      rintro e w1 ⟨rfl, hb1⟩
      have HB := Lib.hid hb1
      clear hb1
      go_wp2_with fail
      refine (QR.out _ (box_below HB.out)).mono ?_
      rintro e w2 ⟨rfl, hb2⟩
      have hb3 := HB.out.trans (hb2.mono HB.out.size)
      have d0 := box_cell hb3 0
      have d1 := box_cell hb3 1
      have d2 := box_cell hb3 2
      have f0 := box_free hb3 0
      have f1 := box_free hb3 1
      have f2 := box_free hb3 2
      simp only [List.getElem?_toArray, List.getElem?_cons_zero, List.getElem?_cons_succ] at d0 d1 d2
      have HB3 := Lib.hid (box_below hb3)
      clear hb2 hb3
      go_wp2_with fail
      exact bodyPost_ret (v := .agg #[.int .i64 ans.ret, .int .i64 ans.steps, .int .i64 ans.code]) (by simp [results, Tryz.results18, go_sem, d0, d1, d2, f0, f1, f2]) rfl ⟨by rw [HR.out]; rfl, ((HB3.out.setCell (Nat.le_refl _) _).setCell (Nat.le_refl _) _).setCell (Nat.le_refl _) _⟩
  · have z3 : ((b.size : Int) != 64) = true := by simpa using (show ¬ (b.size : Int) = 64 by omega)
    have HR := Lib.hid (runL_form (l := l) (b := b) (by omega) (by omega) (.inl h64))
    clear h64
    go_enter Tryz.func18, Tryz.ntmps18
    go_wp2_with fail
    exact bodyPost_ret (v := .agg #[.int .i64 0, .int .i64 0, .int .i64 1]) (by simp [results, Tryz.results18, go_sem]) rfl ⟨by rw [HR.out]; rfl, (Below.refl _ _).alloc (Nat.le_refl _) _⟩

end Go.Proofs.YtekmnopgaopmlaaGreatDoor

