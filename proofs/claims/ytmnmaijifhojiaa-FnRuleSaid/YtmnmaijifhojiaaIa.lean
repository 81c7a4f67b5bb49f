/- The machine's words as plain data; the walks of toInsn, eqInsn and InsnRight. -/
import Derived.Test.YtmnmaijifhojiaaBs
set_option maxRecDepth 100000
namespace Go.Proofs.Ytmnmaijifhojiaa
open Go.RowKit

theorem row_put {w : World} {g : Nat} {cs : Array Value} {T : TypeId} (h : w.heap[g]? = some (.cells cs T (0, 0))) (i : Nat) (v : Value) : (w.setCell ⟨g, i, none⟩ v).heap[g]? = some (.cells (cs.setIfInBounds i v) T (0, 0)) := by
  simp [World.setCell, Array.getElem?_modify, h]

/-- A parameter's box: what it holds behind calls, and what they let be. -/
theorem box_cell {w w' : World} {cs : Array Value} {T : TypeId} (h : Below (w.alloc (.cells cs T)).heap.size (w.alloc (.cells cs T)) w') (i : Nat) : w'.cell? ⟨w.heap.size, i, none⟩ = cs[i]? := by
  rw [h.cell (p := ⟨w.heap.size, i, none⟩) (by simp)]
  exact World.cell?_alloc_at _ _ _ _ rfl
theorem box_free {w w' : World} {cs : Array Value} {T : TypeId} (h : Below (w.alloc (.cells cs T)).heap.size (w.alloc (.cells cs T)) w') (i : Nat) : w'.frozen? ⟨w.heap.size, i, none⟩ = false := by
  rw [h.frozen (p := ⟨w.heap.size, i, none⟩) (by simp)]
  exact frozen_row (heap_alloc_new w _) i
theorem box_below {w w' : World} {cs : Array Value} {T : TypeId} (h : Below (w.alloc (.cells cs T)).heap.size (w.alloc (.cells cs T)) w') : Below w.heap.size w w' :=
  ((Below.refl _ _).alloc (Nat.le_refl _) _).trans (h.mono (by simp))

theorem box2 {w w' : World} {A B : Array Value} {T U : TypeId} (h : Below ((w.alloc (.cells A T)).alloc (.cells B U)).heap.size ((w.alloc (.cells A T)).alloc (.cells B U)) w') :
    (∀ i, w'.cell? ⟨w.heap.size, i, none⟩ = A[i]?) ∧ (∀ i, w'.cell? ⟨w.heap.size + 1, i, none⟩ = B[i]?) ∧ Below w.heap.size w w' := by
  refine ⟨fun i => ?_, fun i => ?_, (((Below.refl _ _).alloc (Nat.le_refl _) _).alloc (by simp) _).trans (h.mono (by simp; omega))⟩
  · rw [h.cell (p := ⟨w.heap.size, i, none⟩) (by simp; omega), World.cell?_alloc_past _ _ _ (by simp), World.cell?_alloc_at _ _ _ _ rfl]
  · rw [h.cell (p := ⟨w.heap.size + 1, i, none⟩) (by simp), World.cell?_alloc_at _ _ _ _ (by simp)]

theorem boxes3 {w w' : World} {A B C : Array Value} {T U V : TypeId} (h : Below (((w.alloc (.cells A T)).alloc (.cells B U)).alloc (.cells C V)).heap.size (((w.alloc (.cells A T)).alloc (.cells B U)).alloc (.cells C V)) w') :
    (∀ i, w'.cell? ⟨w.heap.size, i, none⟩ = A[i]?) ∧ (∀ i, w'.cell? ⟨w.heap.size + 1, i, none⟩ = B[i]?) ∧ (∀ i, w'.cell? ⟨w.heap.size + 1 + 1, i, none⟩ = C[i]?) ∧ (∀ i, w'.frozen? ⟨w.heap.size + 1 + 1, i, none⟩ = false) ∧ Below w.heap.size w w' := by
  have h2 := box2 (w' := w') (w := w) (A := A) (B := B) (T := T) (U := U) (((Below.refl _ _).alloc (Nat.le_refl _) _).trans (h.mono (by simp)))
  refine ⟨h2.1, h2.2.1, fun i => ?_, fun i => ?_, h2.2.2⟩
  · have := box_cell (w := (w.alloc (.cells A T)).alloc (.cells B U)) h i
    simpa using this
  · have := box_free (w := (w.alloc (.cells A T)).alloc (.cells B U)) h i
    simpa using this

theorem rows2 {w w' : World} {A B : Array Value} {T U : TypeId} (h : Below ((w.alloc (.cells A T)).alloc (.cells B U)).heap.size ((w.alloc (.cells A T)).alloc (.cells B U)) w') :
    w'.heap[w.heap.size]? = some (.cells A T (0, 0)) ∧ w'.heap[w.heap.size + 1]? = some (.cells B U (0, 0)) ∧ Below w.heap.size w w' ∧ w.heap.size + 2 ≤ w'.heap.size := by
  refine ⟨?_, ?_, (box2 h).2.2, by have := h.size; simp at this; omega⟩
  · exact (h.block _ (by simp; omega)).trans ((Below.heap_alloc (w.alloc (.cells A T)) _ _ (by simp)).trans (heap_alloc_new w _))
  · exact (h.block (w.heap.size + 1) (by simp)).trans (by have e := heap_alloc_new (w.alloc (.cells A T)) (.cells B U); rw [World.size_alloc] at e; exact e)
theorem rows3 {w w' : World} {A B C : Array Value} {T U V : TypeId} (h : Below (((w.alloc (.cells A T)).alloc (.cells B U)).alloc (.cells C V)).heap.size (((w.alloc (.cells A T)).alloc (.cells B U)).alloc (.cells C V)) w') :
    w'.heap[w.heap.size]? = some (.cells A T (0, 0)) ∧ w'.heap[w.heap.size + 1]? = some (.cells B U (0, 0)) ∧ w'.heap[w.heap.size + 1 + 1]? = some (.cells C V (0, 0)) ∧ Below w.heap.size w w' ∧ w.heap.size + 3 ≤ w'.heap.size := by
  have h2 := rows2 (w' := w') (w := w) (A := A) (B := B) (T := T) (U := U) (((Below.refl _ _).alloc (Nat.le_refl _) _).trans (h.mono (by simp)))
  refine ⟨h2.1, h2.2.1, ?_, h2.2.2.1, by have := h.size; simp at this; omega⟩
  exact (h.block (w.heap.size + 1 + 1) (by simp)).trans (by have e := heap_alloc_new ((w.alloc (.cells A T)).alloc (.cells B U)) (.cells C V); rw [World.size_alloc, World.size_alloc] at e; exact e)
/-- A row, cell by cell; where another row is written. -/
theorem row_other {w : World} {g h : Nat} {o : Obj} (hr : w.heap[g]? = some o) (i : Nat) (v : Value) (hne : g ≠ h) : (w.setCell ⟨h, i, none⟩ v).heap[g]? = some o :=
  (Below.heap_setCell w ⟨h, i, none⟩ v g hne).trans hr
theorem row_cell {w : World} {g : Nat} {cs : Array Value} {T : TypeId} (h : w.heap[g]? = some (.cells cs T (0, 0))) (i : Nat) : w.cell? ⟨g, i, none⟩ = cs[i]? := cell_of_row _ _ _ _ _ _ h

theorem row_grown {w w' : World} {b : Nat} {o : Obj} {row : Option Nat} (h : w.heap[b]? = some o) (hg : w.grownBy w' row) (hne : row ≠ some b) : w'.heap[b]? = some o := by
  have hlt : b < w.heap.size := by
    rcases Nat.lt_or_ge b w.heap.size with hl | hl
    · exact hl
    · rw [Array.getElem?_eq_none hl] at h; cases h
  exact (hg.block b hlt fun e => hne e.symm).trans h
theorem row_alloc {w : World} {b : Nat} {o : Obj} (h : w.heap[b]? = some o) (o' : Obj) : (w.alloc o').heap[b]? = some o := by
  have hlt : b < w.heap.size := by
    rcases Nat.lt_or_ge b w.heap.size with hl | hl
    · exact hl
    · rw [Array.getElem?_eq_none hl] at h; cases h
  exact (Below.heap_alloc w o' b hlt).trans h
theorem row_here {w : World} {b : Nat} {o : Obj} (h : w.heap[b]? = some o) : b < w.heap.size := by
  rcases Nat.lt_or_ge b w.heap.size with hl | hl
  · exact hl
  · rw [Array.getElem?_eq_none hl] at h; cases h

/-- A word of the machine. -/
structure Ins where
  c : Int
  y : Int
  n : Int
  k : Int
def In64 (n : Int) : Prop := -9223372036854775808 ≤ n ∧ n ≤ 9223372036854775807
def Ins.wf (x : Ins) : Prop := In64 x.c ∧ In64 x.y ∧ In64 x.n ∧ In64 x.k
theorem Ins.ext' {a b : Ins} (h0 : a.c = b.c) (h1 : a.y = b.y) (h2 : a.n = b.n) (h3 : a.k = b.k) : a = b := by cases a; cases b; simp_all
instance : DecidableEq Ins := fun a b => decidable_of_iff (a.c = b.c ∧ a.y = b.y ∧ a.n = b.n ∧ a.k = b.k) ⟨fun h => Ins.ext' h.1 h.2.1 h.2.2.1 h.2.2.2, fun h => by rw [h]; exact ⟨rfl, rfl, rfl, rfl⟩⟩

def isB (n lo hi : Int) : Bool := decide (lo ≤ n ∧ n ≤ hi)
theorem ret_bool {a b : Bool} (h : a = b) : Ending.returned (.bool a) = .returned (.bool b) := by rw [h]
theorem isB_yes {n lo hi : Int} (h0 : lo ≤ n) (h1 : n ≤ hi) : isB n lo hi = true := by unfold isB; simp [h0, h1]
theorem isB_no {n lo hi : Int} (h : ¬ (lo ≤ n ∧ n ≤ hi)) : isB n lo hi = false := by unfold isB; simpa using h
/-- Is a word right? -/
def insRight (x : Ins) : Bool := isB x.c 0 65535 && isB x.y 0 255 && isB x.n 0 255 && isB x.k 0 4294967295

theorem l02Is_any (n lo hi : Int) (w : World) : Calls Try.prog 78 #[.int .i64 n, .int .i64 lo, .int .i64 hi] w fun e w' => e = .returned (.bool (isB n lo hi)) ∧ w = w' := by
  by_cases h0 : lo ≤ n
  · by_cases h1 : n ≤ hi
    · have hb := Lib.hid (isB_yes h0 h1)
      go_enter Try.func78, Try.ntmps78
      go_wp2
      go_ret
      exact ⟨ret_bool hb.out.symm, rfl⟩
    · have hb := Lib.hid (isB_no (n := n) (lo := lo) (hi := hi) (by omega))
      have h1' : decide (n ≤ hi) = false := by simpa using h1
      go_enter Try.func78, Try.ntmps78
      go_wp2
      go_ret
      exact ⟨ret_bool hb.out.symm, rfl⟩
  · have hb := Lib.hid (isB_no (n := n) (lo := lo) (hi := hi) (by omega))
    have h0' : decide (lo ≤ n) = false := by simpa using h0
    go_enter Try.func78, Try.ntmps78
    go_wp2
    go_ret
    exact ⟨ret_bool hb.out.symm, rfl⟩

theorem within_any (n hi : Int) (w : World) : Calls Try.prog 77 #[.int .i64 n, .int .i64 hi] w fun e w' => e = .returned (.bool (isB n 0 hi)) ∧ w = w' := by
  by_cases h0 : 0 ≤ n
  · by_cases h1 : n ≤ hi
    · have hb := Lib.hid (isB_yes h0 h1)
      go_enter Try.func77, Try.ntmps77
      go_wp2
      go_ret
      exact ⟨ret_bool hb.out.symm, rfl⟩
    · have hb := Lib.hid (isB_no (n := n) (lo := 0) (hi := hi) (by omega))
      have h1' : decide (n ≤ hi) = false := by simpa using h1
      go_enter Try.func77, Try.ntmps77
      go_wp2
      go_ret
      exact ⟨ret_bool hb.out.symm, rfl⟩
  · have hb := Lib.hid (isB_no (n := n) (lo := 0) (hi := hi) (by omega))
    have h0' : decide (0 ≤ n) = false := by simpa using h0
    go_enter Try.func77, Try.ntmps77
    go_wp2
    go_ret
    exact ⟨ret_bool hb.out.symm, rfl⟩

theorem ne_int {a b : Int} (h : ¬ a = b) : (a != b) = true := by simpa using h
theorem nn_int {a b : Int} (h : a = b) : (a != b) = false := by simpa using h

end Go.Proofs.Ytmnmaijifhojiaa
