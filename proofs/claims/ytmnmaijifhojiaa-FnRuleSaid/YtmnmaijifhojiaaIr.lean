/- Walks of the program's records: rowOf, words, wordsOf, RecordRight. -/
import Derived.Test.YtmnmaijifhojiaaIw
import Derived.Test.YtmnmaijifhojiaaRb
set_option maxRecDepth 100000
set_option linter.unusedSimpArgs false
namespace Go.Proofs.Ytmnmaijifhojiaa
open Go.RowKit
attribute [local go_sem ↓] Go.wp_at_zero Go.wp_at_succ

/-- A row of cells, filled up to a place. -/
def fillV (vs : List Value) (z : Value) (k : Nat) : Array Value := (vs.take k ++ List.replicate (vs.length - k) z).toArray

theorem idxW0 (h0 l0 h1 l1 h2 l2 h3 l3 h4 l4 h5 l5 h6 l6 h7 l7 : Int) (w : World) : (Instr.index 155 (.agg #[.int .i64 h0, .int .i64 l0, .int .i64 h1, .int .i64 l1, .int .i64 h2, .int .i64 l2, .int .i64 h3, .int .i64 l3, .int .i64 h4, .int .i64 l4, .int .i64 h5, .int .i64 l5, .int .i64 h6, .int .i64 l6, .int .i64 h7, .int .i64 l7]) (.int .i64 0)).run Try.prog w = .ok (.agg #[.int .i64 h0, .int .i64 l0]) w := by
  simp [Instr.index, part, asIntOf, go_sem]

theorem idxW1 (h0 l0 h1 l1 h2 l2 h3 l3 h4 l4 h5 l5 h6 l6 h7 l7 : Int) (w : World) : (Instr.index 155 (.agg #[.int .i64 h0, .int .i64 l0, .int .i64 h1, .int .i64 l1, .int .i64 h2, .int .i64 l2, .int .i64 h3, .int .i64 l3, .int .i64 h4, .int .i64 l4, .int .i64 h5, .int .i64 l5, .int .i64 h6, .int .i64 l6, .int .i64 h7, .int .i64 l7]) (.int .i64 1)).run Try.prog w = .ok (.agg #[.int .i64 h1, .int .i64 l1]) w := by
  simp [Instr.index, part, asIntOf, go_sem]

theorem idxW2 (h0 l0 h1 l1 h2 l2 h3 l3 h4 l4 h5 l5 h6 l6 h7 l7 : Int) (w : World) : (Instr.index 155 (.agg #[.int .i64 h0, .int .i64 l0, .int .i64 h1, .int .i64 l1, .int .i64 h2, .int .i64 l2, .int .i64 h3, .int .i64 l3, .int .i64 h4, .int .i64 l4, .int .i64 h5, .int .i64 l5, .int .i64 h6, .int .i64 l6, .int .i64 h7, .int .i64 l7]) (.int .i64 2)).run Try.prog w = .ok (.agg #[.int .i64 h2, .int .i64 l2]) w := by
  simp [Instr.index, part, asIntOf, go_sem]

theorem idxW3 (h0 l0 h1 l1 h2 l2 h3 l3 h4 l4 h5 l5 h6 l6 h7 l7 : Int) (w : World) : (Instr.index 155 (.agg #[.int .i64 h0, .int .i64 l0, .int .i64 h1, .int .i64 l1, .int .i64 h2, .int .i64 l2, .int .i64 h3, .int .i64 l3, .int .i64 h4, .int .i64 l4, .int .i64 h5, .int .i64 l5, .int .i64 h6, .int .i64 l6, .int .i64 h7, .int .i64 l7]) (.int .i64 3)).run Try.prog w = .ok (.agg #[.int .i64 h3, .int .i64 l3]) w := by
  simp [Instr.index, part, asIntOf, go_sem]

theorem idxW4 (h0 l0 h1 l1 h2 l2 h3 l3 h4 l4 h5 l5 h6 l6 h7 l7 : Int) (w : World) : (Instr.index 155 (.agg #[.int .i64 h0, .int .i64 l0, .int .i64 h1, .int .i64 l1, .int .i64 h2, .int .i64 l2, .int .i64 h3, .int .i64 l3, .int .i64 h4, .int .i64 l4, .int .i64 h5, .int .i64 l5, .int .i64 h6, .int .i64 l6, .int .i64 h7, .int .i64 l7]) (.int .i64 4)).run Try.prog w = .ok (.agg #[.int .i64 h4, .int .i64 l4]) w := by
  simp [Instr.index, part, asIntOf, go_sem]

theorem idxW5 (h0 l0 h1 l1 h2 l2 h3 l3 h4 l4 h5 l5 h6 l6 h7 l7 : Int) (w : World) : (Instr.index 155 (.agg #[.int .i64 h0, .int .i64 l0, .int .i64 h1, .int .i64 l1, .int .i64 h2, .int .i64 l2, .int .i64 h3, .int .i64 l3, .int .i64 h4, .int .i64 l4, .int .i64 h5, .int .i64 l5, .int .i64 h6, .int .i64 l6, .int .i64 h7, .int .i64 l7]) (.int .i64 5)).run Try.prog w = .ok (.agg #[.int .i64 h5, .int .i64 l5]) w := by
  simp [Instr.index, part, asIntOf, go_sem]

theorem idxW6 (h0 l0 h1 l1 h2 l2 h3 l3 h4 l4 h5 l5 h6 l6 h7 l7 : Int) (w : World) : (Instr.index 155 (.agg #[.int .i64 h0, .int .i64 l0, .int .i64 h1, .int .i64 l1, .int .i64 h2, .int .i64 l2, .int .i64 h3, .int .i64 l3, .int .i64 h4, .int .i64 l4, .int .i64 h5, .int .i64 l5, .int .i64 h6, .int .i64 l6, .int .i64 h7, .int .i64 l7]) (.int .i64 6)).run Try.prog w = .ok (.agg #[.int .i64 h6, .int .i64 l6]) w := by
  simp [Instr.index, part, asIntOf, go_sem]

theorem idxW7 (h0 l0 h1 l1 h2 l2 h3 l3 h4 l4 h5 l5 h6 l6 h7 l7 : Int) (w : World) : (Instr.index 155 (.agg #[.int .i64 h0, .int .i64 l0, .int .i64 h1, .int .i64 l1, .int .i64 h2, .int .i64 l2, .int .i64 h3, .int .i64 l3, .int .i64 h4, .int .i64 l4, .int .i64 h5, .int .i64 l5, .int .i64 h6, .int .i64 l6, .int .i64 h7, .int .i64 l7]) (.int .i64 7)).run Try.prog w = .ok (.agg #[.int .i64 h7, .int .i64 l7]) w := by
  simp [Instr.index, part, asIntOf, go_sem]

set_option maxHeartbeats 3200000 in
theorem rowOf_any (h0 l0 h1 l1 h2 l2 h3 l3 h4 l4 h5 l5 h6 l6 h7 l7 : Int) (w : World) : Calls Try.prog 108 #[.agg #[.int .i64 h0, .int .i64 l0, .int .i64 h1, .int .i64 l1, .int .i64 h2, .int .i64 l2, .int .i64 h3, .int .i64 l3, .int .i64 h4, .int .i64 l4, .int .i64 h5, .int .i64 l5, .int .i64 h6, .int .i64 l6, .int .i64 h7, .int .i64 l7]] w fun e w' =>
    e = .returned (.agg #[.int .u64 (bitsW ⟨h0, l0⟩), .int .u64 (bitsW ⟨h1, l1⟩), .int .u64 (bitsW ⟨h2, l2⟩), .int .u64 (bitsW ⟨h3, l3⟩), .int .u64 (bitsW ⟨h4, l4⟩), .int .u64 (bitsW ⟨h5, l5⟩), .int .u64 (bitsW ⟨h6, l6⟩), .int .u64 (bitsW ⟨h7, l7⟩)]) ∧ Below w.heap.size w w' := by
  have q0 := fun W => bitsOf_any h0 l0 W
  have q1 := fun W => bitsOf_any h1 l1 W
  have q2 := fun W => bitsOf_any h2 l2 W
  have q3 := fun W => bitsOf_any h3 l3 W
  have q4 := fun W => bitsOf_any h4 l4 W
  have q5 := fun W => bitsOf_any h5 l5 W
  have q6 := fun W => bitsOf_any h6 l6 W
  have q7 := fun W => bitsOf_any h7 l7 W
  generalize bitsW ⟨h0, l0⟩ = b0 at *
  generalize bitsW ⟨h1, l1⟩ = b1 at *
  generalize bitsW ⟨h2, l2⟩ = b2 at *
  generalize bitsW ⟨h3, l3⟩ = b3 at *
  generalize bitsW ⟨h4, l4⟩ = b4 at *
  generalize bitsW ⟨h5, l5⟩ = b5 at *
  generalize bitsW ⟨h6, l6⟩ = b6 at *
  generalize bitsW ⟨h7, l7⟩ = b7 at *
  have Q0 := Lib.hid q0
  have Q1 := Lib.hid q1
  have Q2 := Lib.hid q2
  have Q3 := Lib.hid q3
  have Q4 := Lib.hid q4
  have Q5 := Lib.hid q5
  have Q6 := Lib.hid q6
  have Q7 := Lib.hid q7
  clear q0 q1 q2 q3 q4 q5 q6 q7
  go_enter Try.func108, Try.ntmps108
  go_wp2_with fail
  go_loopw [7] (fun i wr => ∃ k : Nat, k ≤ 8 ∧ i = .int .i64 k ∧ wr.heap[w.heap.size + 1 + 1]? = some (.cells (fillV [.int .u64 b0, .int .u64 b1, .int .u64 b2, .int .u64 b3, .int .u64 b4, .int .u64 b5, .int .u64 b6, .int .u64 b7] (.int .u64 0) (1 * k)) 158 (0, 0)) ∧ wr.heap[w.heap.size + 1]? = some (.cells #[.int .u64 0, .int .u64 0, .int .u64 0, .int .u64 0, .int .u64 0, .int .u64 0, .int .u64 0, .int .u64 0] 158 (0, 0)) ∧ Below w.heap.size w wr)
    (fun i _ => 8 - (intOf i).toNat)
  case atStart =>
    have hb := rows3 (Below.refl _ (((w.alloc (.cells #[.int .i64 h0, .int .i64 l0, .int .i64 h1, .int .i64 l1, .int .i64 h2, .int .i64 l2, .int .i64 h3, .int .i64 l3, .int .i64 h4, .int .i64 l4, .int .i64 h5, .int .i64 l5, .int .i64 h6, .int .i64 l6, .int .i64 h7, .int .i64 l7] 155)).alloc (.cells #[.int .u64 0, .int .u64 0, .int .u64 0, .int .u64 0, .int .u64 0, .int .u64 0, .int .u64 0, .int .u64 0] 158)).alloc (.cells #[.int .u64 0, .int .u64 0, .int .u64 0, .int .u64 0, .int .u64 0, .int .u64 0, .int .u64 0, .int .u64 0] 158)))
    exact ⟨0, by omega, rfl, hb.2.2.1, hb.2.1, hb.2.2.2.1⟩
  case round =>
    obtain ⟨k, hk, rfl, hrow, hres, hbw⟩ := hrel
    have HB := Lib.hid hbw
    have HS := Lib.hid hres
    have hlt : w.heap.size + 1 + 1 < wr.heap.size := row_here hrow
    have HR := Lib.hid hrow
    clear hbw hres hrow
    rcases (by omega : k = 0 ∨ k = 1 ∨ k = 2 ∨ k = 3 ∨ k = 4 ∨ k = 5 ∨ k = 6 ∨ k = 7 ∨ k = 8) with rfl | rfl | rfl | rfl | rfl | rfl | rfl | rfl | rfl
    · have hrow : wr.heap[w.heap.size + 1 + 1]? = some (.cells #[.int .u64 0, .int .u64 0, .int .u64 0, .int .u64 0, .int .u64 0, .int .u64 0, .int .u64 0, .int .u64 0] 158 (0, 0)) := HR.out
      have HR0 := Lib.hid hrow
      have ix := fun W => idxW0 h0 l0 h1 l1 h2 l2 h3 l3 h4 l4 h5 l5 h6 l6 h7 l7 W
      clear hrow
      go_wp2_with fail
      refine (Q0.out _).mono ?_
      rintro e w2 ⟨rfl, hb2⟩
      have hbx : Below wr.heap.size wr w2 := box_below hb2
      have hrow2 := (hbx.block _ hlt).trans HR0.out
      have hres2 := (hbx.block _ (by omega)).trans HS.out
      have HX := Lib.hid hbx
      have HR2 := Lib.hid hrow2
      have HS2 := Lib.hid hres2
      have c0 := row_cell hrow2 0
      have f0 := frozen_row hrow2 0
      simp only [List.getElem?_toArray, List.getElem?_cons_zero, List.getElem?_cons_succ] at c0
      clear hb2 hbx hrow2 hres2 ix
      go_wp2_with fail
      go_roundw
      case rel => exact ⟨1, by omega, rfl, (row_put HR2.out 0 _), (row_other HS2.out _ _ (by omega)), ((HB.out.trans (HX.out.mono HB.out.size)).setCell (p := ⟨w.heap.size + 1 + 1, 0, none⟩) (by simp; omega) _)⟩
      case measure => simp [intOf]
    · have hrow : wr.heap[w.heap.size + 1 + 1]? = some (.cells #[.int .u64 b0, .int .u64 0, .int .u64 0, .int .u64 0, .int .u64 0, .int .u64 0, .int .u64 0, .int .u64 0] 158 (0, 0)) := HR.out
      have HR1 := Lib.hid hrow
      have ix := fun W => idxW1 h0 l0 h1 l1 h2 l2 h3 l3 h4 l4 h5 l5 h6 l6 h7 l7 W
      clear hrow
      go_wp2_with fail
      refine (Q1.out _).mono ?_
      rintro e w2 ⟨rfl, hb2⟩
      have hbx : Below wr.heap.size wr w2 := box_below hb2
      have hrow2 := (hbx.block _ hlt).trans HR1.out
      have hres2 := (hbx.block _ (by omega)).trans HS.out
      have HX := Lib.hid hbx
      have HR2 := Lib.hid hrow2
      have HS2 := Lib.hid hres2
      have c0 := row_cell hrow2 1
      have f0 := frozen_row hrow2 1
      simp only [List.getElem?_toArray, List.getElem?_cons_zero, List.getElem?_cons_succ] at c0
      clear hb2 hbx hrow2 hres2 ix
      go_wp2_with fail
      go_roundw
      case rel => exact ⟨2, by omega, rfl, (row_put HR2.out 1 _), (row_other HS2.out _ _ (by omega)), ((HB.out.trans (HX.out.mono HB.out.size)).setCell (p := ⟨w.heap.size + 1 + 1, 1, none⟩) (by simp; omega) _)⟩
      case measure => simp [intOf]
    · have hrow : wr.heap[w.heap.size + 1 + 1]? = some (.cells #[.int .u64 b0, .int .u64 b1, .int .u64 0, .int .u64 0, .int .u64 0, .int .u64 0, .int .u64 0, .int .u64 0] 158 (0, 0)) := HR.out
      have HR2 := Lib.hid hrow
      have ix := fun W => idxW2 h0 l0 h1 l1 h2 l2 h3 l3 h4 l4 h5 l5 h6 l6 h7 l7 W
      clear hrow
      go_wp2_with fail
      refine (Q2.out _).mono ?_
      rintro e w2 ⟨rfl, hb2⟩
      have hbx : Below wr.heap.size wr w2 := box_below hb2
      have hrow2 := (hbx.block _ hlt).trans HR2.out
      have hres2 := (hbx.block _ (by omega)).trans HS.out
      have HX := Lib.hid hbx
      have HR2 := Lib.hid hrow2
      have HS2 := Lib.hid hres2
      have c0 := row_cell hrow2 2
      have f0 := frozen_row hrow2 2
      simp only [List.getElem?_toArray, List.getElem?_cons_zero, List.getElem?_cons_succ] at c0
      clear hb2 hbx hrow2 hres2 ix
      go_wp2_with fail
      go_roundw
      case rel => exact ⟨3, by omega, rfl, (row_put HR2.out 2 _), (row_other HS2.out _ _ (by omega)), ((HB.out.trans (HX.out.mono HB.out.size)).setCell (p := ⟨w.heap.size + 1 + 1, 2, none⟩) (by simp; omega) _)⟩
      case measure => simp [intOf]
    · have hrow : wr.heap[w.heap.size + 1 + 1]? = some (.cells #[.int .u64 b0, .int .u64 b1, .int .u64 b2, .int .u64 0, .int .u64 0, .int .u64 0, .int .u64 0, .int .u64 0] 158 (0, 0)) := HR.out
      have HR3 := Lib.hid hrow
      have ix := fun W => idxW3 h0 l0 h1 l1 h2 l2 h3 l3 h4 l4 h5 l5 h6 l6 h7 l7 W
      clear hrow
      go_wp2_with fail
      refine (Q3.out _).mono ?_
      rintro e w2 ⟨rfl, hb2⟩
      have hbx : Below wr.heap.size wr w2 := box_below hb2
      have hrow2 := (hbx.block _ hlt).trans HR3.out
      have hres2 := (hbx.block _ (by omega)).trans HS.out
      have HX := Lib.hid hbx
      have HR2 := Lib.hid hrow2
      have HS2 := Lib.hid hres2
      have c0 := row_cell hrow2 3
      have f0 := frozen_row hrow2 3
      simp only [List.getElem?_toArray, List.getElem?_cons_zero, List.getElem?_cons_succ] at c0
      clear hb2 hbx hrow2 hres2 ix
      go_wp2_with fail
      go_roundw
      case rel => exact ⟨4, by omega, rfl, (row_put HR2.out 3 _), (row_other HS2.out _ _ (by omega)), ((HB.out.trans (HX.out.mono HB.out.size)).setCell (p := ⟨w.heap.size + 1 + 1, 3, none⟩) (by simp; omega) _)⟩
      case measure => simp [intOf]
    · have hrow : wr.heap[w.heap.size + 1 + 1]? = some (.cells #[.int .u64 b0, .int .u64 b1, .int .u64 b2, .int .u64 b3, .int .u64 0, .int .u64 0, .int .u64 0, .int .u64 0] 158 (0, 0)) := HR.out
      have HR4 := Lib.hid hrow
      have ix := fun W => idxW4 h0 l0 h1 l1 h2 l2 h3 l3 h4 l4 h5 l5 h6 l6 h7 l7 W
      clear hrow
      go_wp2_with fail
      refine (Q4.out _).mono ?_
      rintro e w2 ⟨rfl, hb2⟩
      have hbx : Below wr.heap.size wr w2 := box_below hb2
      have hrow2 := (hbx.block _ hlt).trans HR4.out
      have hres2 := (hbx.block _ (by omega)).trans HS.out
      have HX := Lib.hid hbx
      have HR2 := Lib.hid hrow2
      have HS2 := Lib.hid hres2
      have c0 := row_cell hrow2 4
      have f0 := frozen_row hrow2 4
      simp only [List.getElem?_toArray, List.getElem?_cons_zero, List.getElem?_cons_succ] at c0
      clear hb2 hbx hrow2 hres2 ix
      go_wp2_with fail
      go_roundw
      case rel => exact ⟨5, by omega, rfl, (row_put HR2.out 4 _), (row_other HS2.out _ _ (by omega)), ((HB.out.trans (HX.out.mono HB.out.size)).setCell (p := ⟨w.heap.size + 1 + 1, 4, none⟩) (by simp; omega) _)⟩
      case measure => simp [intOf]
    · have hrow : wr.heap[w.heap.size + 1 + 1]? = some (.cells #[.int .u64 b0, .int .u64 b1, .int .u64 b2, .int .u64 b3, .int .u64 b4, .int .u64 0, .int .u64 0, .int .u64 0] 158 (0, 0)) := HR.out
      have HR5 := Lib.hid hrow
      have ix := fun W => idxW5 h0 l0 h1 l1 h2 l2 h3 l3 h4 l4 h5 l5 h6 l6 h7 l7 W
      clear hrow
      go_wp2_with fail
      refine (Q5.out _).mono ?_
      rintro e w2 ⟨rfl, hb2⟩
      have hbx : Below wr.heap.size wr w2 := box_below hb2
      have hrow2 := (hbx.block _ hlt).trans HR5.out
      have hres2 := (hbx.block _ (by omega)).trans HS.out
      have HX := Lib.hid hbx
      have HR2 := Lib.hid hrow2
      have HS2 := Lib.hid hres2
      have c0 := row_cell hrow2 5
      have f0 := frozen_row hrow2 5
      simp only [List.getElem?_toArray, List.getElem?_cons_zero, List.getElem?_cons_succ] at c0
      clear hb2 hbx hrow2 hres2 ix
      go_wp2_with fail
      go_roundw
      case rel => exact ⟨6, by omega, rfl, (row_put HR2.out 5 _), (row_other HS2.out _ _ (by omega)), ((HB.out.trans (HX.out.mono HB.out.size)).setCell (p := ⟨w.heap.size + 1 + 1, 5, none⟩) (by simp; omega) _)⟩
      case measure => simp [intOf]
    · have hrow : wr.heap[w.heap.size + 1 + 1]? = some (.cells #[.int .u64 b0, .int .u64 b1, .int .u64 b2, .int .u64 b3, .int .u64 b4, .int .u64 b5, .int .u64 0, .int .u64 0] 158 (0, 0)) := HR.out
      have HR6 := Lib.hid hrow
      have ix := fun W => idxW6 h0 l0 h1 l1 h2 l2 h3 l3 h4 l4 h5 l5 h6 l6 h7 l7 W
      clear hrow
      go_wp2_with fail
      refine (Q6.out _).mono ?_
      rintro e w2 ⟨rfl, hb2⟩
      have hbx : Below wr.heap.size wr w2 := box_below hb2
      have hrow2 := (hbx.block _ hlt).trans HR6.out
      have hres2 := (hbx.block _ (by omega)).trans HS.out
      have HX := Lib.hid hbx
      have HR2 := Lib.hid hrow2
      have HS2 := Lib.hid hres2
      have c0 := row_cell hrow2 6
      have f0 := frozen_row hrow2 6
      simp only [List.getElem?_toArray, List.getElem?_cons_zero, List.getElem?_cons_succ] at c0
      clear hb2 hbx hrow2 hres2 ix
      go_wp2_with fail
      go_roundw
      case rel => exact ⟨7, by omega, rfl, (row_put HR2.out 6 _), (row_other HS2.out _ _ (by omega)), ((HB.out.trans (HX.out.mono HB.out.size)).setCell (p := ⟨w.heap.size + 1 + 1, 6, none⟩) (by simp; omega) _)⟩
      case measure => simp [intOf]
    · have hrow : wr.heap[w.heap.size + 1 + 1]? = some (.cells #[.int .u64 b0, .int .u64 b1, .int .u64 b2, .int .u64 b3, .int .u64 b4, .int .u64 b5, .int .u64 b6, .int .u64 0] 158 (0, 0)) := HR.out
      have HR7 := Lib.hid hrow
      have ix := fun W => idxW7 h0 l0 h1 l1 h2 l2 h3 l3 h4 l4 h5 l5 h6 l6 h7 l7 W
      clear hrow
      go_wp2_with fail
      refine (Q7.out _).mono ?_
      rintro e w2 ⟨rfl, hb2⟩
      have hbx : Below wr.heap.size wr w2 := box_below hb2
      have hrow2 := (hbx.block _ hlt).trans HR7.out
      have hres2 := (hbx.block _ (by omega)).trans HS.out
      have HX := Lib.hid hbx
      have HR2 := Lib.hid hrow2
      have HS2 := Lib.hid hres2
      have c0 := row_cell hrow2 7
      have f0 := frozen_row hrow2 7
      simp only [List.getElem?_toArray, List.getElem?_cons_zero, List.getElem?_cons_succ] at c0
      clear hb2 hbx hrow2 hres2 ix
      go_wp2_with fail
      go_roundw
      case rel => exact ⟨8, by omega, rfl, (row_put HR2.out 7 _), (row_other HS2.out _ _ (by omega)), ((HB.out.trans (HX.out.mono HB.out.size)).setCell (p := ⟨w.heap.size + 1 + 1, 7, none⟩) (by simp; omega) _)⟩
      case measure => simp [intOf]
    · have hrow : wr.heap[w.heap.size + 1 + 1]? = some (.cells #[.int .u64 b0, .int .u64 b1, .int .u64 b2, .int .u64 b3, .int .u64 b4, .int .u64 b5, .int .u64 b6, .int .u64 b7] 158 (0, 0)) := HR.out
      have HR8 := Lib.hid hrow
      clear hrow
      have c0 := row_cell HR8.out 0
      have d0 := row_cell HS.out 0
      have f0 := frozen_row HS.out 0
      have c1 := row_cell HR8.out 1
      have d1 := row_cell HS.out 1
      have f1 := frozen_row HS.out 1
      have c2 := row_cell HR8.out 2
      have d2 := row_cell HS.out 2
      have f2 := frozen_row HS.out 2
      have c3 := row_cell HR8.out 3
      have d3 := row_cell HS.out 3
      have f3 := frozen_row HS.out 3
      have c4 := row_cell HR8.out 4
      have d4 := row_cell HS.out 4
      have f4 := frozen_row HS.out 4
      have c5 := row_cell HR8.out 5
      have d5 := row_cell HS.out 5
      have f5 := frozen_row HS.out 5
      have c6 := row_cell HR8.out 6
      have d6 := row_cell HS.out 6
      have f6 := frozen_row HS.out 6
      have c7 := row_cell HR8.out 7
      have d7 := row_cell HS.out 7
      have f7 := frozen_row HS.out 7
      simp only [List.getElem?_toArray, List.getElem?_cons_zero, List.getElem?_cons_succ] at c0 d0 c1 d1 c2 d2 c3 d3 c4 d4 c5 d5 c6 d6 c7 d7
      go_wp2_with fail
      exact bodyPost_ret (v := .agg #[.int .u64 b0, .int .u64 b1, .int .u64 b2, .int .u64 b3, .int .u64 b4, .int .u64 b5, .int .u64 b6, .int .u64 b7]) (by simp [results, Try.results108, go_sem, d0, d1, d2, d3, d4, d5, d6, d7]) rfl ⟨rfl, ((((((((HB.out.setCell (p := ⟨w.heap.size + 1, 0, none⟩) (by simp) _).setCell (p := ⟨w.heap.size + 1, 1, none⟩) (by simp) _).setCell (p := ⟨w.heap.size + 1, 2, none⟩) (by simp) _).setCell (p := ⟨w.heap.size + 1, 3, none⟩) (by simp) _).setCell (p := ⟨w.heap.size + 1, 4, none⟩) (by simp) _).setCell (p := ⟨w.heap.size + 1, 5, none⟩) (by simp) _).setCell (p := ⟨w.heap.size + 1, 6, none⟩) (by simp) _).setCell (p := ⟨w.heap.size + 1, 7, none⟩) (by simp) _)⟩

theorem idxR0 (b0 b1 b2 b3 b4 b5 b6 b7 : Int) (w : World) : (Instr.index 158 (.agg #[.int .u64 b0, .int .u64 b1, .int .u64 b2, .int .u64 b3, .int .u64 b4, .int .u64 b5, .int .u64 b6, .int .u64 b7]) (.int .i64 0)).run Try.prog w = .ok (.int .u64 b0) w := by
  simp [Instr.index, part, asIntOf, go_sem]

theorem idxR1 (b0 b1 b2 b3 b4 b5 b6 b7 : Int) (w : World) : (Instr.index 158 (.agg #[.int .u64 b0, .int .u64 b1, .int .u64 b2, .int .u64 b3, .int .u64 b4, .int .u64 b5, .int .u64 b6, .int .u64 b7]) (.int .i64 1)).run Try.prog w = .ok (.int .u64 b1) w := by
  simp [Instr.index, part, asIntOf, go_sem]

theorem idxR2 (b0 b1 b2 b3 b4 b5 b6 b7 : Int) (w : World) : (Instr.index 158 (.agg #[.int .u64 b0, .int .u64 b1, .int .u64 b2, .int .u64 b3, .int .u64 b4, .int .u64 b5, .int .u64 b6, .int .u64 b7]) (.int .i64 2)).run Try.prog w = .ok (.int .u64 b2) w := by
  simp [Instr.index, part, asIntOf, go_sem]

theorem idxR3 (b0 b1 b2 b3 b4 b5 b6 b7 : Int) (w : World) : (Instr.index 158 (.agg #[.int .u64 b0, .int .u64 b1, .int .u64 b2, .int .u64 b3, .int .u64 b4, .int .u64 b5, .int .u64 b6, .int .u64 b7]) (.int .i64 3)).run Try.prog w = .ok (.int .u64 b3) w := by
  simp [Instr.index, part, asIntOf, go_sem]

theorem idxR4 (b0 b1 b2 b3 b4 b5 b6 b7 : Int) (w : World) : (Instr.index 158 (.agg #[.int .u64 b0, .int .u64 b1, .int .u64 b2, .int .u64 b3, .int .u64 b4, .int .u64 b5, .int .u64 b6, .int .u64 b7]) (.int .i64 4)).run Try.prog w = .ok (.int .u64 b4) w := by
  simp [Instr.index, part, asIntOf, go_sem]

theorem idxR5 (b0 b1 b2 b3 b4 b5 b6 b7 : Int) (w : World) : (Instr.index 158 (.agg #[.int .u64 b0, .int .u64 b1, .int .u64 b2, .int .u64 b3, .int .u64 b4, .int .u64 b5, .int .u64 b6, .int .u64 b7]) (.int .i64 5)).run Try.prog w = .ok (.int .u64 b5) w := by
  simp [Instr.index, part, asIntOf, go_sem]

theorem idxR6 (b0 b1 b2 b3 b4 b5 b6 b7 : Int) (w : World) : (Instr.index 158 (.agg #[.int .u64 b0, .int .u64 b1, .int .u64 b2, .int .u64 b3, .int .u64 b4, .int .u64 b5, .int .u64 b6, .int .u64 b7]) (.int .i64 6)).run Try.prog w = .ok (.int .u64 b6) w := by
  simp [Instr.index, part, asIntOf, go_sem]

theorem idxR7 (b0 b1 b2 b3 b4 b5 b6 b7 : Int) (w : World) : (Instr.index 158 (.agg #[.int .u64 b0, .int .u64 b1, .int .u64 b2, .int .u64 b3, .int .u64 b4, .int .u64 b5, .int .u64 b6, .int .u64 b7]) (.int .i64 7)).run Try.prog w = .ok (.int .u64 b7) w := by
  simp [Instr.index, part, asIntOf, go_sem]

set_option maxHeartbeats 3200000 in
theorem words_any (b0 b1 b2 b3 b4 b5 b6 b7 : Int) (w : World) (hb0 : 0 ≤ b0 ∧ b0 ≤ 18446744073709551615) (hb1 : 0 ≤ b1 ∧ b1 ≤ 18446744073709551615) (hb2 : 0 ≤ b2 ∧ b2 ≤ 18446744073709551615) (hb3 : 0 ≤ b3 ∧ b3 ≤ 18446744073709551615) (hb4 : 0 ≤ b4 ∧ b4 ≤ 18446744073709551615) (hb5 : 0 ≤ b5 ∧ b5 ≤ 18446744073709551615) (hb6 : 0 ≤ b6 ∧ b6 ≤ 18446744073709551615) (hb7 : 0 ≤ b7 ∧ b7 ≤ 18446744073709551615) : Calls Try.prog 109 #[.agg #[.int .u64 b0, .int .u64 b1, .int .u64 b2, .int .u64 b3, .int .u64 b4, .int .u64 b5, .int .u64 b6, .int .u64 b7]] w fun e w' =>
    e = .returned (.agg #[.int .i64 (halves b0).h, .int .i64 (halves b0).l, .int .i64 (halves b1).h, .int .i64 (halves b1).l, .int .i64 (halves b2).h, .int .i64 (halves b2).l, .int .i64 (halves b3).h, .int .i64 (halves b3).l, .int .i64 (halves b4).h, .int .i64 (halves b4).l, .int .i64 (halves b5).h, .int .i64 (halves b5).l, .int .i64 (halves b6).h, .int .i64 (halves b6).l, .int .i64 (halves b7).h, .int .i64 (halves b7).l]) ∧ Below w.heap.size w w' := by
  have q0 := fun W => wordOf_any b0 W hb0.1 hb0.2
  have q1 := fun W => wordOf_any b1 W hb1.1 hb1.2
  have q2 := fun W => wordOf_any b2 W hb2.1 hb2.2
  have q3 := fun W => wordOf_any b3 W hb3.1 hb3.2
  have q4 := fun W => wordOf_any b4 W hb4.1 hb4.2
  have q5 := fun W => wordOf_any b5 W hb5.1 hb5.2
  have q6 := fun W => wordOf_any b6 W hb6.1 hb6.2
  have q7 := fun W => wordOf_any b7 W hb7.1 hb7.2
  generalize (halves b0).h = h0 at *
  generalize (halves b0).l = l0 at *
  generalize (halves b1).h = h1 at *
  generalize (halves b1).l = l1 at *
  generalize (halves b2).h = h2 at *
  generalize (halves b2).l = l2 at *
  generalize (halves b3).h = h3 at *
  generalize (halves b3).l = l3 at *
  generalize (halves b4).h = h4 at *
  generalize (halves b4).l = l4 at *
  generalize (halves b5).h = h5 at *
  generalize (halves b5).l = l5 at *
  generalize (halves b6).h = h6 at *
  generalize (halves b6).l = l6 at *
  generalize (halves b7).h = h7 at *
  generalize (halves b7).l = l7 at *
  have Q0 := Lib.hid q0
  have Q1 := Lib.hid q1
  have Q2 := Lib.hid q2
  have Q3 := Lib.hid q3
  have Q4 := Lib.hid q4
  have Q5 := Lib.hid q5
  have Q6 := Lib.hid q6
  have Q7 := Lib.hid q7
  clear q0 q1 q2 q3 q4 q5 q6 q7 hb0 hb1 hb2 hb3 hb4 hb5 hb6 hb7
  go_enter Try.func109, Try.ntmps109
  go_wp2_with fail
  go_loopw [7] (fun i wr => ∃ k : Nat, k ≤ 8 ∧ i = .int .i64 k ∧ wr.heap[w.heap.size + 1 + 1]? = some (.cells (fillV [.int .i64 h0, .int .i64 l0, .int .i64 h1, .int .i64 l1, .int .i64 h2, .int .i64 l2, .int .i64 h3, .int .i64 l3, .int .i64 h4, .int .i64 l4, .int .i64 h5, .int .i64 l5, .int .i64 h6, .int .i64 l6, .int .i64 h7, .int .i64 l7] (.int .i64 0) (2 * k)) 155 (0, 0)) ∧ wr.heap[w.heap.size + 1]? = some (.cells #[.int .i64 0, .int .i64 0, .int .i64 0, .int .i64 0, .int .i64 0, .int .i64 0, .int .i64 0, .int .i64 0, .int .i64 0, .int .i64 0, .int .i64 0, .int .i64 0, .int .i64 0, .int .i64 0, .int .i64 0, .int .i64 0] 155 (0, 0)) ∧ Below w.heap.size w wr)
    (fun i _ => 8 - (intOf i).toNat)
  case atStart =>
    have hb := rows3 (Below.refl _ (((w.alloc (.cells #[.int .u64 b0, .int .u64 b1, .int .u64 b2, .int .u64 b3, .int .u64 b4, .int .u64 b5, .int .u64 b6, .int .u64 b7] 158)).alloc (.cells #[.int .i64 0, .int .i64 0, .int .i64 0, .int .i64 0, .int .i64 0, .int .i64 0, .int .i64 0, .int .i64 0, .int .i64 0, .int .i64 0, .int .i64 0, .int .i64 0, .int .i64 0, .int .i64 0, .int .i64 0, .int .i64 0] 155)).alloc (.cells #[.int .i64 0, .int .i64 0, .int .i64 0, .int .i64 0, .int .i64 0, .int .i64 0, .int .i64 0, .int .i64 0, .int .i64 0, .int .i64 0, .int .i64 0, .int .i64 0, .int .i64 0, .int .i64 0, .int .i64 0, .int .i64 0] 155)))
    exact ⟨0, by omega, rfl, hb.2.2.1, hb.2.1, hb.2.2.2.1⟩
  case round =>
    obtain ⟨k, hk, rfl, hrow, hres, hbw⟩ := hrel
    have HB := Lib.hid hbw
    have HS := Lib.hid hres
    have hlt : w.heap.size + 1 + 1 < wr.heap.size := row_here hrow
    have HR := Lib.hid hrow
    clear hbw hres hrow
    rcases (by omega : k = 0 ∨ k = 1 ∨ k = 2 ∨ k = 3 ∨ k = 4 ∨ k = 5 ∨ k = 6 ∨ k = 7 ∨ k = 8) with rfl | rfl | rfl | rfl | rfl | rfl | rfl | rfl | rfl
    · have hrow : wr.heap[w.heap.size + 1 + 1]? = some (.cells #[.int .i64 0, .int .i64 0, .int .i64 0, .int .i64 0, .int .i64 0, .int .i64 0, .int .i64 0, .int .i64 0, .int .i64 0, .int .i64 0, .int .i64 0, .int .i64 0, .int .i64 0, .int .i64 0, .int .i64 0, .int .i64 0] 155 (0, 0)) := HR.out
      have HR0 := Lib.hid hrow
      have ix := fun W => idxR0 b0 b1 b2 b3 b4 b5 b6 b7 W
      clear hrow
      go_wp2_with fail
      refine (Q0.out _).mono ?_
      rintro e w2 ⟨rfl, hb2⟩
      have hbx : Below wr.heap.size wr w2 := hb2
      have hrow2 := (hbx.block _ hlt).trans HR0.out
      have hres2 := (hbx.block _ (by omega)).trans HS.out
      have HX := Lib.hid hbx
      have HR2 := Lib.hid hrow2
      have HS2 := Lib.hid hres2
      have c0 := row_cell hrow2 0
      have f0 := frozen_row hrow2 0
      have c1 := row_cell hrow2 1
      have f1 := frozen_row hrow2 1
      simp only [List.getElem?_toArray, List.getElem?_cons_zero, List.getElem?_cons_succ] at c0 c1
      clear hb2 hbx hrow2 hres2 ix
      go_wp2_with fail
      go_roundw
      case rel => exact ⟨1, by omega, rfl, (row_put (row_put HR2.out 0 _) 1 _), (row_other (row_other HS2.out _ _ (by omega)) _ _ (by omega)), (((HB.out.trans (HX.out.mono HB.out.size)).setCell (p := ⟨w.heap.size + 1 + 1, 0, none⟩) (by simp; omega) _).setCell (p := ⟨w.heap.size + 1 + 1, 1, none⟩) (by simp; omega) _)⟩
      case measure => simp [intOf]
    · have hrow : wr.heap[w.heap.size + 1 + 1]? = some (.cells #[.int .i64 h0, .int .i64 l0, .int .i64 0, .int .i64 0, .int .i64 0, .int .i64 0, .int .i64 0, .int .i64 0, .int .i64 0, .int .i64 0, .int .i64 0, .int .i64 0, .int .i64 0, .int .i64 0, .int .i64 0, .int .i64 0] 155 (0, 0)) := HR.out
      have HR1 := Lib.hid hrow
      have ix := fun W => idxR1 b0 b1 b2 b3 b4 b5 b6 b7 W
      clear hrow
      go_wp2_with fail
      refine (Q1.out _).mono ?_
      rintro e w2 ⟨rfl, hb2⟩
      have hbx : Below wr.heap.size wr w2 := hb2
      have hrow2 := (hbx.block _ hlt).trans HR1.out
      have hres2 := (hbx.block _ (by omega)).trans HS.out
      have HX := Lib.hid hbx
      have HR2 := Lib.hid hrow2
      have HS2 := Lib.hid hres2
      have c0 := row_cell hrow2 2
      have f0 := frozen_row hrow2 2
      have c1 := row_cell hrow2 3
      have f1 := frozen_row hrow2 3
      simp only [List.getElem?_toArray, List.getElem?_cons_zero, List.getElem?_cons_succ] at c0 c1
      clear hb2 hbx hrow2 hres2 ix
      go_wp2_with fail
      go_roundw
      case rel => exact ⟨2, by omega, rfl, (row_put (row_put HR2.out 2 _) 3 _), (row_other (row_other HS2.out _ _ (by omega)) _ _ (by omega)), (((HB.out.trans (HX.out.mono HB.out.size)).setCell (p := ⟨w.heap.size + 1 + 1, 2, none⟩) (by simp; omega) _).setCell (p := ⟨w.heap.size + 1 + 1, 3, none⟩) (by simp; omega) _)⟩
      case measure => simp [intOf]
    · have hrow : wr.heap[w.heap.size + 1 + 1]? = some (.cells #[.int .i64 h0, .int .i64 l0, .int .i64 h1, .int .i64 l1, .int .i64 0, .int .i64 0, .int .i64 0, .int .i64 0, .int .i64 0, .int .i64 0, .int .i64 0, .int .i64 0, .int .i64 0, .int .i64 0, .int .i64 0, .int .i64 0] 155 (0, 0)) := HR.out
      have HR2 := Lib.hid hrow
      have ix := fun W => idxR2 b0 b1 b2 b3 b4 b5 b6 b7 W
      clear hrow
      go_wp2_with fail
      refine (Q2.out _).mono ?_
      rintro e w2 ⟨rfl, hb2⟩
      have hbx : Below wr.heap.size wr w2 := hb2
      have hrow2 := (hbx.block _ hlt).trans HR2.out
      have hres2 := (hbx.block _ (by omega)).trans HS.out
      have HX := Lib.hid hbx
      have HR2 := Lib.hid hrow2
      have HS2 := Lib.hid hres2
      have c0 := row_cell hrow2 4
      have f0 := frozen_row hrow2 4
      have c1 := row_cell hrow2 5
      have f1 := frozen_row hrow2 5
      simp only [List.getElem?_toArray, List.getElem?_cons_zero, List.getElem?_cons_succ] at c0 c1
      clear hb2 hbx hrow2 hres2 ix
      go_wp2_with fail
      go_roundw
      case rel => exact ⟨3, by omega, rfl, (row_put (row_put HR2.out 4 _) 5 _), (row_other (row_other HS2.out _ _ (by omega)) _ _ (by omega)), (((HB.out.trans (HX.out.mono HB.out.size)).setCell (p := ⟨w.heap.size + 1 + 1, 4, none⟩) (by simp; omega) _).setCell (p := ⟨w.heap.size + 1 + 1, 5, none⟩) (by simp; omega) _)⟩
      case measure => simp [intOf]
    · have hrow : wr.heap[w.heap.size + 1 + 1]? = some (.cells #[.int .i64 h0, .int .i64 l0, .int .i64 h1, .int .i64 l1, .int .i64 h2, .int .i64 l2, .int .i64 0, .int .i64 0, .int .i64 0, .int .i64 0, .int .i64 0, .int .i64 0, .int .i64 0, .int .i64 0, .int .i64 0, .int .i64 0] 155 (0, 0)) := HR.out
      have HR3 := Lib.hid hrow
      have ix := fun W => idxR3 b0 b1 b2 b3 b4 b5 b6 b7 W
      clear hrow
      go_wp2_with fail
      refine (Q3.out _).mono ?_
      rintro e w2 ⟨rfl, hb2⟩
      have hbx : Below wr.heap.size wr w2 := hb2
      have hrow2 := (hbx.block _ hlt).trans HR3.out
      have hres2 := (hbx.block _ (by omega)).trans HS.out
      have HX := Lib.hid hbx
      have HR2 := Lib.hid hrow2
      have HS2 := Lib.hid hres2
      have c0 := row_cell hrow2 6
      have f0 := frozen_row hrow2 6
      have c1 := row_cell hrow2 7
      have f1 := frozen_row hrow2 7
      simp only [List.getElem?_toArray, List.getElem?_cons_zero, List.getElem?_cons_succ] at c0 c1
      clear hb2 hbx hrow2 hres2 ix
      go_wp2_with fail
      go_roundw
      case rel => exact ⟨4, by omega, rfl, (row_put (row_put HR2.out 6 _) 7 _), (row_other (row_other HS2.out _ _ (by omega)) _ _ (by omega)), (((HB.out.trans (HX.out.mono HB.out.size)).setCell (p := ⟨w.heap.size + 1 + 1, 6, none⟩) (by simp; omega) _).setCell (p := ⟨w.heap.size + 1 + 1, 7, none⟩) (by simp; omega) _)⟩
      case measure => simp [intOf]
    · have hrow : wr.heap[w.heap.size + 1 + 1]? = some (.cells #[.int .i64 h0, .int .i64 l0, .int .i64 h1, .int .i64 l1, .int .i64 h2, .int .i64 l2, .int .i64 h3, .int .i64 l3, .int .i64 0, .int .i64 0, .int .i64 0, .int .i64 0, .int .i64 0, .int .i64 0, .int .i64 0, .int .i64 0] 155 (0, 0)) := HR.out
      have HR4 := Lib.hid hrow
      have ix := fun W => idxR4 b0 b1 b2 b3 b4 b5 b6 b7 W
      clear hrow
      go_wp2_with fail
      refine (Q4.out _).mono ?_
      rintro e w2 ⟨rfl, hb2⟩
      have hbx : Below wr.heap.size wr w2 := hb2
      have hrow2 := (hbx.block _ hlt).trans HR4.out
      have hres2 := (hbx.block _ (by omega)).trans HS.out
      have HX := Lib.hid hbx
      have HR2 := Lib.hid hrow2
      have HS2 := Lib.hid hres2
      have c0 := row_cell hrow2 8
      have f0 := frozen_row hrow2 8
      have c1 := row_cell hrow2 9
      have f1 := frozen_row hrow2 9
      simp only [List.getElem?_toArray, List.getElem?_cons_zero, List.getElem?_cons_succ] at c0 c1
      clear hb2 hbx hrow2 hres2 ix
      go_wp2_with fail
      go_roundw
      case rel => exact ⟨5, by omega, rfl, (row_put (row_put HR2.out 8 _) 9 _), (row_other (row_other HS2.out _ _ (by omega)) _ _ (by omega)), (((HB.out.trans (HX.out.mono HB.out.size)).setCell (p := ⟨w.heap.size + 1 + 1, 8, none⟩) (by simp; omega) _).setCell (p := ⟨w.heap.size + 1 + 1, 9, none⟩) (by simp; omega) _)⟩
      case measure => simp [intOf]
    · have hrow : wr.heap[w.heap.size + 1 + 1]? = some (.cells #[.int .i64 h0, .int .i64 l0, .int .i64 h1, .int .i64 l1, .int .i64 h2, .int .i64 l2, .int .i64 h3, .int .i64 l3, .int .i64 h4, .int .i64 l4, .int .i64 0, .int .i64 0, .int .i64 0, .int .i64 0, .int .i64 0, .int .i64 0] 155 (0, 0)) := HR.out
      have HR5 := Lib.hid hrow
      have ix := fun W => idxR5 b0 b1 b2 b3 b4 b5 b6 b7 W
      clear hrow
      go_wp2_with fail
      refine (Q5.out _).mono ?_
      rintro e w2 ⟨rfl, hb2⟩
      have hbx : Below wr.heap.size wr w2 := hb2
      have hrow2 := (hbx.block _ hlt).trans HR5.out
      have hres2 := (hbx.block _ (by omega)).trans HS.out
      have HX := Lib.hid hbx
      have HR2 := Lib.hid hrow2
      have HS2 := Lib.hid hres2
      have c0 := row_cell hrow2 10
      have f0 := frozen_row hrow2 10
      have c1 := row_cell hrow2 11
      have f1 := frozen_row hrow2 11
      simp only [List.getElem?_toArray, List.getElem?_cons_zero, List.getElem?_cons_succ] at c0 c1
      clear hb2 hbx hrow2 hres2 ix
      go_wp2_with fail
      go_roundw
      case rel => exact ⟨6, by omega, rfl, (row_put (row_put HR2.out 10 _) 11 _), (row_other (row_other HS2.out _ _ (by omega)) _ _ (by omega)), (((HB.out.trans (HX.out.mono HB.out.size)).setCell (p := ⟨w.heap.size + 1 + 1, 10, none⟩) (by simp; omega) _).setCell (p := ⟨w.heap.size + 1 + 1, 11, none⟩) (by simp; omega) _)⟩
      case measure => simp [intOf]
    · have hrow : wr.heap[w.heap.size + 1 + 1]? = some (.cells #[.int .i64 h0, .int .i64 l0, .int .i64 h1, .int .i64 l1, .int .i64 h2, .int .i64 l2, .int .i64 h3, .int .i64 l3, .int .i64 h4, .int .i64 l4, .int .i64 h5, .int .i64 l5, .int .i64 0, .int .i64 0, .int .i64 0, .int .i64 0] 155 (0, 0)) := HR.out
      have HR6 := Lib.hid hrow
      have ix := fun W => idxR6 b0 b1 b2 b3 b4 b5 b6 b7 W
      clear hrow
      go_wp2_with fail
      refine (Q6.out _).mono ?_
      rintro e w2 ⟨rfl, hb2⟩
      have hbx : Below wr.heap.size wr w2 := hb2
      have hrow2 := (hbx.block _ hlt).trans HR6.out
      have hres2 := (hbx.block _ (by omega)).trans HS.out
      have HX := Lib.hid hbx
      have HR2 := Lib.hid hrow2
      have HS2 := Lib.hid hres2
      have c0 := row_cell hrow2 12
      have f0 := frozen_row hrow2 12
      have c1 := row_cell hrow2 13
      have f1 := frozen_row hrow2 13
      simp only [List.getElem?_toArray, List.getElem?_cons_zero, List.getElem?_cons_succ] at c0 c1
      clear hb2 hbx hrow2 hres2 ix
      go_wp2_with fail
      go_roundw
      case rel => exact ⟨7, by omega, rfl, (row_put (row_put HR2.out 12 _) 13 _), (row_other (row_other HS2.out _ _ (by omega)) _ _ (by omega)), (((HB.out.trans (HX.out.mono HB.out.size)).setCell (p := ⟨w.heap.size + 1 + 1, 12, none⟩) (by simp; omega) _).setCell (p := ⟨w.heap.size + 1 + 1, 13, none⟩) (by simp; omega) _)⟩
      case measure => simp [intOf]
    · have hrow : wr.heap[w.heap.size + 1 + 1]? = some (.cells #[.int .i64 h0, .int .i64 l0, .int .i64 h1, .int .i64 l1, .int .i64 h2, .int .i64 l2, .int .i64 h3, .int .i64 l3, .int .i64 h4, .int .i64 l4, .int .i64 h5, .int .i64 l5, .int .i64 h6, .int .i64 l6, .int .i64 0, .int .i64 0] 155 (0, 0)) := HR.out
      have HR7 := Lib.hid hrow
      have ix := fun W => idxR7 b0 b1 b2 b3 b4 b5 b6 b7 W
      clear hrow
      go_wp2_with fail
      refine (Q7.out _).mono ?_
      rintro e w2 ⟨rfl, hb2⟩
      have hbx : Below wr.heap.size wr w2 := hb2
      have hrow2 := (hbx.block _ hlt).trans HR7.out
      have hres2 := (hbx.block _ (by omega)).trans HS.out
      have HX := Lib.hid hbx
      have HR2 := Lib.hid hrow2
      have HS2 := Lib.hid hres2
      have c0 := row_cell hrow2 14
      have f0 := frozen_row hrow2 14
      have c1 := row_cell hrow2 15
      have f1 := frozen_row hrow2 15
      simp only [List.getElem?_toArray, List.getElem?_cons_zero, List.getElem?_cons_succ] at c0 c1
      clear hb2 hbx hrow2 hres2 ix
      go_wp2_with fail
      go_roundw
      case rel => exact ⟨8, by omega, rfl, (row_put (row_put HR2.out 14 _) 15 _), (row_other (row_other HS2.out _ _ (by omega)) _ _ (by omega)), (((HB.out.trans (HX.out.mono HB.out.size)).setCell (p := ⟨w.heap.size + 1 + 1, 14, none⟩) (by simp; omega) _).setCell (p := ⟨w.heap.size + 1 + 1, 15, none⟩) (by simp; omega) _)⟩
      case measure => simp [intOf]
    · have hrow : wr.heap[w.heap.size + 1 + 1]? = some (.cells #[.int .i64 h0, .int .i64 l0, .int .i64 h1, .int .i64 l1, .int .i64 h2, .int .i64 l2, .int .i64 h3, .int .i64 l3, .int .i64 h4, .int .i64 l4, .int .i64 h5, .int .i64 l5, .int .i64 h6, .int .i64 l6, .int .i64 h7, .int .i64 l7] 155 (0, 0)) := HR.out
      have HR8 := Lib.hid hrow
      clear hrow
      have c0 := row_cell HR8.out 0
      have d0 := row_cell HS.out 0
      have f0 := frozen_row HS.out 0
      have c1 := row_cell HR8.out 1
      have d1 := row_cell HS.out 1
      have f1 := frozen_row HS.out 1
      have c2 := row_cell HR8.out 2
      have d2 := row_cell HS.out 2
      have f2 := frozen_row HS.out 2
      have c3 := row_cell HR8.out 3
      have d3 := row_cell HS.out 3
      have f3 := frozen_row HS.out 3
      have c4 := row_cell HR8.out 4
      have d4 := row_cell HS.out 4
      have f4 := frozen_row HS.out 4
      have c5 := row_cell HR8.out 5
      have d5 := row_cell HS.out 5
      have f5 := frozen_row HS.out 5
      have c6 := row_cell HR8.out 6
      have d6 := row_cell HS.out 6
      have f6 := frozen_row HS.out 6
      have c7 := row_cell HR8.out 7
      have d7 := row_cell HS.out 7
      have f7 := frozen_row HS.out 7
      have c8 := row_cell HR8.out 8
      have d8 := row_cell HS.out 8
      have f8 := frozen_row HS.out 8
      have c9 := row_cell HR8.out 9
      have d9 := row_cell HS.out 9
      have f9 := frozen_row HS.out 9
      have c10 := row_cell HR8.out 10
      have d10 := row_cell HS.out 10
      have f10 := frozen_row HS.out 10
      have c11 := row_cell HR8.out 11
      have d11 := row_cell HS.out 11
      have f11 := frozen_row HS.out 11
      have c12 := row_cell HR8.out 12
      have d12 := row_cell HS.out 12
      have f12 := frozen_row HS.out 12
      have c13 := row_cell HR8.out 13
      have d13 := row_cell HS.out 13
      have f13 := frozen_row HS.out 13
      have c14 := row_cell HR8.out 14
      have d14 := row_cell HS.out 14
      have f14 := frozen_row HS.out 14
      have c15 := row_cell HR8.out 15
      have d15 := row_cell HS.out 15
      have f15 := frozen_row HS.out 15
      simp only [List.getElem?_toArray, List.getElem?_cons_zero, List.getElem?_cons_succ] at c0 d0 c1 d1 c2 d2 c3 d3 c4 d4 c5 d5 c6 d6 c7 d7 c8 d8 c9 d9 c10 d10 c11 d11 c12 d12 c13 d13 c14 d14 c15 d15
      go_wp2_with fail
      exact bodyPost_ret (v := .agg #[.int .i64 h0, .int .i64 l0, .int .i64 h1, .int .i64 l1, .int .i64 h2, .int .i64 l2, .int .i64 h3, .int .i64 l3, .int .i64 h4, .int .i64 l4, .int .i64 h5, .int .i64 l5, .int .i64 h6, .int .i64 l6, .int .i64 h7, .int .i64 l7]) (by simp [results, Try.results109, go_sem, d0, d1, d2, d3, d4, d5, d6, d7, d8, d9, d10, d11, d12, d13, d14, d15]) rfl ⟨rfl, ((((((((((((((((HB.out.setCell (p := ⟨w.heap.size + 1, 0, none⟩) (by simp) _).setCell (p := ⟨w.heap.size + 1, 1, none⟩) (by simp) _).setCell (p := ⟨w.heap.size + 1, 2, none⟩) (by simp) _).setCell (p := ⟨w.heap.size + 1, 3, none⟩) (by simp) _).setCell (p := ⟨w.heap.size + 1, 4, none⟩) (by simp) _).setCell (p := ⟨w.heap.size + 1, 5, none⟩) (by simp) _).setCell (p := ⟨w.heap.size + 1, 6, none⟩) (by simp) _).setCell (p := ⟨w.heap.size + 1, 7, none⟩) (by simp) _).setCell (p := ⟨w.heap.size + 1, 8, none⟩) (by simp) _).setCell (p := ⟨w.heap.size + 1, 9, none⟩) (by simp) _).setCell (p := ⟨w.heap.size + 1, 10, none⟩) (by simp) _).setCell (p := ⟨w.heap.size + 1, 11, none⟩) (by simp) _).setCell (p := ⟨w.heap.size + 1, 12, none⟩) (by simp) _).setCell (p := ⟨w.heap.size + 1, 13, none⟩) (by simp) _).setCell (p := ⟨w.heap.size + 1, 14, none⟩) (by simp) _).setCell (p := ⟨w.heap.size + 1, 15, none⟩) (by simp) _)⟩

end Go.Proofs.Ytmnmaijifhojiaa
