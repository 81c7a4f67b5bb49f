/- Walks of the laws' own helpers on records. -/
import Derived.Test.YtmnmaijifhojiaaRc
set_option maxRecDepth 100000
namespace Go.Proofs.Ytmnmaijifhojiaa
open Go.RowKit Go.ChangeShapes Go.WideShapes

set_option maxHeartbeats 800000 in
theorem toRecord_any (r : Rc) (v : Value) (w : World) (hv : WdAt w w.heap.size v r.args) (hn : r.args.length ≤ 1048576) :
    Calls Try.prog 47 #[rcV r v] w fun e w' => ∃ u, e = .returned (rcV r u) ∧ WdOwn w.heap.size w' u r.args ∧ Below w.heap.size w w' := by
  obtain ⟨nr, ar, ⟨ih, il⟩, args⟩ := r
  simp only at hv hn ⊢
  obtain ⟨a, cap, rfl, hlc, hcm⟩ := hv.len
  have HV := Lib.hid hv
  clear hv
  go_enter Try.func47, Try.ntmps47
  go_wp2_with fail
  refine (toWord_any _ _ _).mono ?_
  rintro e w1 ⟨rfl, hb1⟩
  obtain ⟨r0, r1, r2, hB, hS⟩ := rows3 hb1
  have c4 := row_cell r0 4
  have e2 := row_cell r2 2
  have e3 := row_cell r2 3
  simp only [List.getElem?_toArray, List.getElem?_cons_zero, List.getElem?_cons_succ] at c4 e2 e3
  have f2 := frozen_row r2 2
  have f3 := frozen_row r2 3
  have R0 := Lib.hid r0
  have R1 := Lib.hid r1
  have R2 := Lib.hid r2
  have HB := Lib.hid hB
  clear hb1 r0 r1 r2 hB
  go_wp2_with fail
  have hB2 : Below w.heap.size w ((w1.setCell ⟨w.heap.size + 1 + 1, 2, none⟩ (.int .i64 ih)).setCell ⟨w.heap.size + 1 + 1, 3, none⟩ (.int .i64 il)) := (HB.out.setCell (p := ⟨w.heap.size + 1 + 1, 2, none⟩) (by simp; omega) _).setCell (p := ⟨w.heap.size + 1 + 1, 3, none⟩) (by simp; omega) _
  have hr1 := row_other (row_other R1.out 2 (.int .i64 ih) (h := w.heap.size + 1 + 1) (by omega)) 3 (.int .i64 il) (h := w.heap.size + 1 + 1) (by omega)
  have hr2 := row_put (row_put R2.out 2 (.int .i64 ih)) 3 (.int .i64 il)
  have hS2 : w.heap.size + 3 ≤ ((w1.setCell ⟨w.heap.size + 1 + 1, 2, none⟩ (.int .i64 ih)).setCell ⟨w.heap.size + 1 + 1, 3, none⟩ (.int .i64 il)).heap.size := by simp [World.setCell]; omega
  clear c4 e2 e3 f2 f3
  generalize (w1.setCell ⟨w.heap.size + 1 + 1, 2, none⟩ (.int .i64 ih)).setCell ⟨w.heap.size + 1 + 1, 3, none⟩ (.int .i64 il) = W2 at hB2 hr1 hr2 hS2 ⊢
  refine (toWordS_any _ args _ (LAt.up (LAt.below HV.out hB2) hB2.size) hn).mono ?_
  rintro e w3 ⟨u, rfl, ho3, hb3⟩
  obtain ⟨ua, ucap, rfl⟩ := OwnL.slice ho3
  have hr1' := below_row hb3 hr1
  have hr2' := below_row hb3 hr2
  have HB3 := Lib.hid (hB2.trans (hb3.mono hB2.size))
  have HO3 := Lib.hid (OwnL.base ho3 (b' := w.heap.size + 3) hS2)
  have HR1 := Lib.hid hr1'
  have c0 := row_cell hr2' 0
  have c1 := row_cell hr2' 1
  have c2 := row_cell hr2' 2
  have c3 := row_cell hr2' 3
  have c4 := row_cell hr2' 4
  have d0 := row_cell hr1' 0
  have d1 := row_cell hr1' 1
  have d2 := row_cell hr1' 2
  have d3 := row_cell hr1' 3
  have d4 := row_cell hr1' 4
  simp [-Array.getElem?_eq_getElem] at c0 c1 c2 c3 c4 d0 d1 d2 d3 d4
  have g4 := frozen_row hr2' 4
  have f0 := frozen_row hr1' 0
  have f1 := frozen_row hr1' 1
  have f2 := frozen_row hr1' 2
  have f3 := frozen_row hr1' 3
  have f4 := frozen_row hr1' 4
  clear hb3 hB2 hr1 hr2 hr1' hr2' ho3 hS2
  go_wp2_with fail
  exact bodyPost_ret (v := .agg #[.int .i64 nr, .int .i64 ar, .int .i64 ih, .int .i64 il, .slice ua args.length ucap]) (by simp [results, Try.results47, go_sem, d0, d1, d2, d3, d4]) rfl
    ⟨_, rfl, ((((((HO3.out.setBelow (by simp) _).setBelow (by simp) _).setBelow (by simp) _).setBelow (by simp) _).setBelow (by simp) _).setBelow (by simp) _).base (by omega),
      (((((HB3.out.setCell (p := ⟨w.heap.size + 1 + 1, 4, none⟩) (by simp; omega) _).setCell (p := ⟨w.heap.size + 1, 0, none⟩) (by simp) _).setCell (p := ⟨w.heap.size + 1, 1, none⟩) (by simp) _).setCell (p := ⟨w.heap.size + 1, 2, none⟩) (by simp) _).setCell (p := ⟨w.heap.size + 1, 3, none⟩) (by simp) _).setCell (p := ⟨w.heap.size + 1, 4, none⟩) (by simp) _⟩

theorem szRecord_any (r : Rc) (a : Option Addr) (len cap : Nat) (left : Int) (w : World) (hl : len ≤ 9223372036854775807) (h0 : 0 ≤ left) (h1 : left ≤ 1048576) :
    Calls Try.prog 46 #[rcV r (.slice a len cap), .int .i64 left] w fun e w' => e = .returned (.int .i64 (if left - (len : Int) < 0 then -1 else left - (len : Int))) ∧ Below w.heap.size w w' := by
  obtain ⟨nr, ar, ⟨ih, il⟩, args⟩ := r
  have q := fun W => szWordS_any a len cap left W hl h0 h1
  have hb0 : ∀ o, Below w.heap.size w (w.alloc o) := fun o => (Below.refl _ _).alloc (Nat.le_refl _) _
  have HB := Lib.hid hb0
  by_cases h : left - (len : Int) < 0
  · rw [if_pos h] at q
    have HQ := Lib.hid q
    have he := Lib.hid (show (if left - (len : Int) < 0 then (-1 : Int) else left - (len : Int)) = -1 from if_pos h)
    clear q hb0
    go_enter Try.func46, Try.ntmps46
    go_wp2_with fail
    refine (HQ.out _).mono ?_
    rintro e w1 ⟨rfl, rfl⟩
    go_wp2_with fail
    go_ret
    first | exact ⟨rfl, HB.out _⟩ | exact ⟨ret_int he.out.symm, HB.out _⟩
  · rw [if_neg h] at q
    have HQ := Lib.hid q
    have he := Lib.hid (show (if left - (len : Int) < 0 then (-1 : Int) else left - (len : Int)) = left - (len : Int) from if_neg h)
    have hd : decide (left - (len : Int) < 0) = false := by simpa using h
    clear q hb0
    go_enter Try.func46, Try.ntmps46
    go_wp2_with fail
    refine (HQ.out _).mono ?_
    rintro e w1 ⟨rfl, rfl⟩
    go_wp2_with fail
    go_ret
    first | exact ⟨rfl, HB.out _⟩ | exact ⟨ret_int he.out.symm, HB.out _⟩

theorem eqWord_same (x : Wd) (w : World) : Calls Try.prog 89 #[.agg #[.int .i64 x.h, .int .i64 x.l], .agg #[.int .i64 x.h, .int .i64 x.l]] w fun e w' => e = .returned (.bool true) ∧ Below w.heap.size w w' :=
  (eqWord_any x x w).mono fun _ _ h => ⟨h.1.trans (ret_bool (by simp)), h.2⟩

set_option maxHeartbeats 800000 in
/-- Of two records that are alike. -/
theorem eqRecord_same (r : Rc) (v1 v2 : Value) (w : World) (h1 : WdAt w w.heap.size v1 r.args) (h2 : WdAt w w.heap.size v2 r.args) :
    Calls Try.prog 48 #[rcV r v1, rcV r v2] w fun e w' => e = .returned (.bool true) ∧ Below w.heap.size w w' := by
  obtain ⟨nr, ar, ⟨ih, il⟩, args⟩ := r
  simp only at h1 h2 ⊢
  obtain ⟨a1, cap1, rfl, hc1, hm1⟩ := h1.len
  obtain ⟨a2, cap2, rfl, hc2, hm2⟩ := h2.len
  have q1 := fun W => eqWord_same ⟨ih, il⟩ W
  have q2 := fun W (h : Below w.heap.size w W) => eqWordS_same _ _ args W (LAt.up (LAt.below h1 h) h.size) (LAt.up (LAt.below h2 h) h.size)
  have Q1 := Lib.hid q1
  have Q2 := Lib.hid q2
  clear q1 q2 h1 h2
  have hn : (nr != nr) = false := by simp
  have ha : (ar != ar) = false := by simp
  go_enter Try.func48, Try.ntmps48
  go_wp2_with fail
  refine (Q1.out _).mono ?_
  rintro e w1 ⟨rfl, hb1⟩
  obtain ⟨r0, r1, hB, _⟩ := rows2 hb1
  have c4 := row_cell r0 4
  have d4 := row_cell r1 4
  simp only [List.getElem?_toArray, List.getElem?_cons_zero, List.getElem?_cons_succ] at c4 d4
  have HB := Lib.hid hB
  clear hb1 r0 r1 hB
  go_wp2_with fail
  clear c4 d4
  refine (Q2.out _ HB.out).mono ?_
  rintro e w2 ⟨rfl, hb2⟩
  have HB2 := Lib.hid (HB.out.trans (hb2.mono HB.out.size))
  clear hb2
  go_wp2_with fail
  go_ret
  exact ⟨rfl, HB2.out⟩

abbrev roV (r : Rc) (v : Value) (c : Int) : Value := .agg #[.int .i64 r.nr, .int .i64 r.ar, .int .i64 r.ip.h, .int .i64 r.ip.l, v, .int .i64 c]

end Go.Proofs.Ytmnmaijifhojiaa
