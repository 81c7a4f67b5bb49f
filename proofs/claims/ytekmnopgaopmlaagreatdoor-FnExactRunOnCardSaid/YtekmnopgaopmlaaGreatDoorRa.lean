/- The machine's memory; its words walked in the model. -/
import Derived.Test.YtekmnopgaopmlaaGreatDoorRn
import Derived.Test.YtekmnopgaopmlaaGreatDoorLk
import Derived.Deep.QuietTactic
import Derived.BigQuiet
import Derived.StillTailTactics
import Derived.Deep.Draws
set_option maxRecDepth 100000
set_option linter.unusedSimpArgs false
set_option linter.unusedVariables false
namespace Go.Proofs.YtekmnopgaopmlaaGreatDoor
open Go.RowKit

/-- The machine lies in three blocks. -/
def MAt (w : World) (M C H : Nat) (m : Mc) : Prop :=
  w.heap[M]? = some (.cells #[.int .i64 m.a, .int .i64 m.x, .slice (some ⟨C, 0, none⟩) 16 16, .slice (some ⟨H, 0, none⟩) 16 16] 130 (0, 0)) ∧
  w.heap[C]? = some (.cells (m.cells.map (Value.int .i64)).toArray 2 (0, 0)) ∧ w.heap[H]? = some (.cells (m.has.map Value.bool).toArray 4 (0, 0)) ∧
  M ≠ C ∧ M ≠ H ∧ C ≠ H
/-- All but the machine's blocks is as it was. -/
structure KeepM (M C H : Nat) (w w' : World) : Prop where
  os : w'.os = w.os
  tape : w'.tape = w.tape
  output : w'.output = w.output
  size : w.heap.size ≤ w'.heap.size
  block : ∀ k, k < w.heap.size → k ≠ M → k ≠ C → k ≠ H → w'.heap[k]? = w.heap[k]?
theorem KeepM.refl (M C H : Nat) (w : World) : KeepM M C H w w := ⟨rfl, rfl, rfl, Nat.le_refl _, fun _ _ _ _ _ => rfl⟩
theorem KeepM.trans {M C H : Nat} {a b c : World} (h : KeepM M C H a b) (k : KeepM M C H b c) : KeepM M C H a c :=
  ⟨k.os.trans h.os, k.tape.trans h.tape, k.output.trans h.output, Nat.le_trans h.size k.size, fun i hi h1 h2 h3 => (k.block i (Nat.lt_of_lt_of_le hi h.size) h1 h2 h3).trans (h.block i hi h1 h2 h3)⟩
theorem KeepM.of {M C H : Nat} {w w' : World} (h : Below w.heap.size w w') : KeepM M C H w w' := ⟨h.os, h.tape, h.output, h.size, fun k hk _ _ _ => h.block k hk⟩
theorem KeepM.set {M C H : Nat} {a w : World} (h : KeepM M C H a w) {p : Addr} (hp : p.block = M ∨ p.block = C ∨ p.block = H) (v : Value) : KeepM M C H a (w.setCell p v) :=
  h.trans ⟨rfl, rfl, rfl, by simp [World.setCell], fun k _ h1 h2 h3 => Below.heap_setCell _ _ _ _ (by rcases hp with e | e | e <;> omega)⟩
theorem KeepM.below {M C H B : Nat} {a w w' : World} (h : Below B a w) (k : KeepM M C H w w') (h1 : B ≤ M) (h2 : B ≤ C) (h3 : B ≤ H) (hB : B ≤ w.heap.size) : Below B a w' :=
  h.trans ⟨k.os, k.tape, k.output, k.size, fun i hi => k.block i (by omega) (by omega) (by omega) (by omega)⟩
theorem MAt.below {w w' : World} {M C H : Nat} {m : Mc} (h : MAt w M C H m) (hb : Below w.heap.size w w') : MAt w' M C H m := by
  obtain ⟨h1, h2, h3, h4⟩ := h
  exact ⟨(hb.block _ (row_here h1)).trans h1, (hb.block _ (row_here h2)).trans h2, (hb.block _ (row_here h3)).trans h3, h4⟩
theorem MAt.setA {w : World} {M C H : Nat} {m : Mc} (h : MAt w M C H m) (v : Int) : MAt (w.setCell ⟨M, 0, none⟩ (.int .i64 v)) M C H ⟨v, m.x, m.cells, m.has⟩ := by
  obtain ⟨h1, h2, h3, h4, h5, h6⟩ := h
  have hr := row_put h1 0 (.int .i64 v)
  simp only [List.setIfInBounds_toArray, List.set_cons_zero, List.set_cons_succ] at hr
  exact ⟨hr, row_other h2 0 _ (Ne.symm h4), row_other h3 0 _ (Ne.symm h5), h4, h5, h6⟩
theorem MAt.setX {w : World} {M C H : Nat} {m : Mc} (h : MAt w M C H m) (v : Int) : MAt (w.setCell ⟨M, 1, none⟩ (.int .i64 v)) M C H ⟨m.a, v, m.cells, m.has⟩ := by
  obtain ⟨h1, h2, h3, h4, h5, h6⟩ := h
  have hr := row_put h1 1 (.int .i64 v)
  simp only [List.setIfInBounds_toArray, List.set_cons_zero, List.set_cons_succ] at hr
  exact ⟨hr, row_other h2 1 _ (Ne.symm h4), row_other h3 1 _ (Ne.symm h5), h4, h5, h6⟩
theorem MAt.cellsM {w : World} {M C H : Nat} {m : Mc} (h : MAt w M C H m) : w.cell? ⟨M, 0, none⟩ = some (.int .i64 m.a) ∧ w.cell? ⟨M, 1, none⟩ = some (.int .i64 m.x) ∧ w.cell? ⟨M, 2, none⟩ = some (.slice (some ⟨C, 0, none⟩) 16 16) ∧ w.cell? ⟨M, 3, none⟩ = some (.slice (some ⟨H, 0, none⟩) 16 16) := by
  have c0 := row_cell h.1 0
  have c1 := row_cell h.1 1
  have c2 := row_cell h.1 2
  have c3 := row_cell h.1 3
  simp only [List.getElem?_toArray, List.getElem?_cons_zero, List.getElem?_cons_succ] at c0 c1 c2 c3
  exact ⟨c0, c1, c2, c3⟩
theorem MAt.free {w : World} {M C H : Nat} {m : Mc} (h : MAt w M C H m) (i : Nat) : w.frozen? ⟨M, i, none⟩ = false ∧ w.frozen? ⟨C, i, none⟩ = false ∧ w.frozen? ⟨H, i, none⟩ = false := ⟨frozen_row h.1 i, frozen_row h.2.1 i, frozen_row h.2.2.1 i⟩
theorem MAt.cell {w : World} {M C H : Nat} {m : Mc} (h : MAt w M C H m) {i : Nat} (hi : i < m.cells.length) : w.cell? ⟨C, i, none⟩ = some (.int .i64 (m.cells.getD i 0)) := by
  rw [row_cell h.2.1 i, List.getD_eq_getElem?_getD, List.getElem?_eq_getElem hi]
  simp [hi]
theorem MAt.hasC {w : World} {M C H : Nat} {m : Mc} (h : MAt w M C H m) {i : Nat} (hi : i < m.has.length) : w.cell? ⟨H, i, none⟩ = some (.bool (m.has.getD i false)) := by
  rw [row_cell h.2.2.1 i, List.getD_eq_getElem?_getD, List.getElem?_eq_getElem hi]
  simp [hi]
theorem MAt.setC {w : World} {M C H : Nat} {m : Mc} (h : MAt w M C H m) (i : Nat) (v : Int) : MAt (w.setCell ⟨C, i, none⟩ (.int .i64 v)) M C H ⟨m.a, m.x, m.cells.set i v, m.has⟩ := by
  obtain ⟨h1, h2, h3, h4, h5, h6⟩ := h
  have hr := row_put h2 i (.int .i64 v)
  rw [List.setIfInBounds_toArray, ← List.map_set] at hr
  exact ⟨row_other h1 i _ h4, hr, row_other h3 i _ (Ne.symm h6), h4, h5, h6⟩
theorem MAt.setH {w : World} {M C H : Nat} {m : Mc} (h : MAt w M C H m) (i : Nat) (v : Bool) : MAt (w.setCell ⟨H, i, none⟩ (.bool v)) M C H ⟨m.a, m.x, m.cells, m.has.set i v⟩ := by
  obtain ⟨h1, h2, h3, h4, h5, h6⟩ := h
  have hr := row_put h3 i (.bool v)
  rw [List.setIfInBounds_toArray, ← List.map_set] at hr
  exact ⟨row_other h1 i _ h5, row_other h2 i _ h6, hr, h4, h5, h6⟩

theorem below_drawn {B : Nat} {a w : World} (h : Below B a w) (n : Nat) : Below B a (w.drewN n) := by
  induction n with
  | zero => exact h
  | succ n ih => exact ih.drew

theorem l05Look_any (m : Mc) (c y n k : Int) (M C H : Nat) (w : World) (h : MAt w M C H m) (hl : looksC c = true) :
    Calls Tryz.prog 85 #[.pointer (some ⟨M, 0, none⟩), .agg #[.int .i64 c, .int .i64 y, .int .i64 n, .int .i64 k]] w fun e w' => e = .returned (.bool (lookM m ⟨c, y, n, k⟩)) ∧ Below w.heap.size w w' := by
  have hb0 := (Below.refl w.heap.size w).alloc (Nat.le_refl _) (.cells #[.int .i64 c, .int .i64 y, .int .i64 n, .int .i64 k] 66)
  obtain ⟨c0, c1, _, _⟩ := (h.below hb0).cellsM
  have HB := Lib.hid hb0
  have hc : c = 21 ∨ c = 37 ∨ c = 53 ∨ c = 69 ∨ c = 29 ∨ c = 45 ∨ c = 61 ∨ c = 77 := by
    unfold looksC at hl
    simpa using hl
  clear h hb0 hl
  obtain ⟨a, x, cs, hs⟩ := m
  simp only at c0 c1
  rcases hc with rfl | rfl | rfl | rfl | rfl | rfl | rfl | rfl
  all_goals
    go_enter Tryz.func85, Tryz.ntmps85
    go_wp2_with fail
    go_quiet (fail)
    go_wp2_with fail
    go_ret
    exact ⟨ret_bool (by simp [lookM]), below_drawn HB.out _⟩

theorem MAt.drew {w : World} {M C H : Nat} {m : Mc} (h : MAt w M C H m) : MAt w.drew M C H m := h
theorem KeepM.drew {M C H : Nat} {a w : World} (h : KeepM M C H a w) : KeepM M C H a w.drew := ⟨h.os, h.tape, h.output, h.size, h.block⟩
theorem sumM_yes {m : Mc} {i : Ins} {v : Int} (h : sumA i.c m.a m.x i.k = w32 v) : sumM m i = (⟨w32 v, m.x, m.cells, m.has⟩, 0) := by
  unfold sumM
  have := (w32_in v).1
  rw [h, if_neg (by omega)]
theorem sumM_no {m : Mc} {i : Ins} (h : sumA i.c m.a m.x i.k = -1) : sumM m i = (m, 8) := by
  unfold sumM
  rw [h, if_pos (by decide)]
def SumPost (m : Mc) (i : Ins) (M C H : Nat) (w : World) (e : Ending) (w' : World) : Prop := e = .returned (.int .i64 (sumM m i).2) ∧ MAt w' M C H (sumM m i).1 ∧ KeepM M C H w w'
theorem sum_fin {wa w : World} {M C H : Nat} {m : Mc} {i : Ins} {v : Int} (hm : MAt wa M C H m) (hb : Below w.heap.size w wa) (hs : sumA i.c m.a m.x i.k = w32 v) :
    SumPost m i M C H w (.returned (.int .i64 0)) ((wa.setCell ⟨M, 0, none⟩ (.int .i64 v)).setCell ⟨M, 0, none⟩ (.int .i64 (bits .and .i64 v 4294967295))).drew := by
  unfold SumPost
  rw [sumM_yes hs, i64_and32]
  exact ⟨rfl, ((hm.setA v).setA _).drew, (((KeepM.of (M := M) (C := C) (H := H) hb).set (p := ⟨M, 0, none⟩) (.inl rfl) _).set (p := ⟨M, 0, none⟩) (.inl rfl) _).drew⟩
theorem sum_fin' {wa w : World} {M C H : Nat} {m : Mc} {i : Ins} {v : Int} (hm : MAt wa M C H m) (hb : Below w.heap.size w wa) (hs : sumA i.c m.a m.x i.k = w32 v) :
    SumPost m i M C H w (.returned (.int .i64 0)) ((wa.setCell ⟨M, 0, none⟩ (.int .i64 v)).setCell ⟨M, 0, none⟩ (.int .i64 (bits .and .i64 v 4294967295))) := by
  unfold SumPost
  rw [sumM_yes hs, i64_and32]
  exact ⟨rfl, (hm.setA v).setA _, ((KeepM.of (M := M) (C := C) (H := H) hb).set (p := ⟨M, 0, none⟩) (.inl rfl) _).set (p := ⟨M, 0, none⟩) (.inl rfl) _⟩
theorem sum_err {wa w : World} {M C H : Nat} {m : Mc} {i : Ins} (hm : MAt wa M C H m) (hb : Below w.heap.size w wa) (hs : sumA i.c m.a m.x i.k = -1) : SumPost m i M C H w (.returned (.int .i64 8)) wa := by
  unfold SumPost
  rw [sumM_no hs]
  exact ⟨rfl, hm, KeepM.of hb⟩

end Go.Proofs.YtekmnopgaopmlaaGreatDoor
