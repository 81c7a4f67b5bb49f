/- CmpHolds of the program walked. -/
import Derived.Test.YtmnmaijifhojiaaJc
set_option maxRecDepth 100000
namespace Go.Proofs.Ytmnmaijifhojiaa
open Go.RowKit
attribute [local go_sem ↓] Go.wp_at_zero Go.wp_at_succ

theorem method_equal (v : Value) (w : World) : (Go.method 280 142 v "loop.example/s0083/impl.holds").run Try.prog w = .ok (132, v) w := by kernel_rfl
theorem method_unlike (v : Value) (w : World) : (Go.method 280 143 v "loop.example/s0083/impl.holds").run Try.prog w = .ok (133, v) w := by kernel_rfl
theorem method_less (v : Value) (w : World) : (Go.method 280 144 v "loop.example/s0083/impl.holds").run Try.prog w = .ok (134, v) w := by kernel_rfl
theorem method_notMore (v : Value) (w : World) : (Go.method 280 145 v "loop.example/s0083/impl.holds").run Try.prog w = .ok (135, v) w := by kernel_rfl
theorem method_more (v : Value) (w : World) : (Go.method 280 146 v "loop.example/s0083/impl.holds").run Try.prog w = .ok (136, v) w := by kernel_rfl
theorem method_notLess (v : Value) (w : World) : (Go.method 280 147 v "loop.example/s0083/impl.holds").run Try.prog w = .ok (137, v) w := by kernel_rfl
theorem method_masked (v : Value) (w : World) : (Go.method 280 149 v "loop.example/s0083/impl.holds").run Try.prog w = .ok (138, v) w := by kernel_rfl

theorem bits_eq {x y : Wd} (hx : wdRight x = true) (hy : wdRight y = true) : (bitsW x == bitsW y) = (x.h == y.h && x.l == y.l) := by
  rw [Bool.eq_iff_iff]
  simp only [beq_iff_eq, Bool.and_eq_true]
  constructor
  · intro h
    have e : x = y := by rw [← (halves_bitsW x).2 hx, ← (halves_bitsW y).2 hy, h]
    rw [e]; exact ⟨rfl, rfl⟩
  · rintro ⟨h1, h2⟩
    rw [Wd.ext' h1 h2]
theorem le_not (a b : Int) : decide (a ≤ b) = !decide (b < a) := by
  by_cases h : a ≤ b
  · have : ¬ b < a := by omega
    simp [h, this]
  · have : b < a := by omega
    simp [h, this]
theorem bits_halves (u : Int) (h0 : 0 ≤ u) (h1 : u ≤ 18446744073709551615) : bitsW (halves u) = u := by
  unfold bitsW halves
  simp only
  omega
theorem and_u64_bd (x y : Wd) : 0 ≤ bits .and .u64 (bitsW x) (bitsW y) ∧ bits .and .u64 (bitsW x) (bitsW y) ≤ 18446744073709551615 := by
  obtain ⟨a0, a1⟩ := bitsW_bd x
  obtain ⟨b0, b1⟩ := bitsW_bd y
  obtain ⟨a, ha⟩ := Int.eq_ofNat_of_zero_le a0
  obtain ⟨b, hb⟩ := Int.eq_ofNat_of_zero_le b0
  rw [ha, hb, and_u64_nat _ _ (by omega) (by omega)]
  have : a &&& b ≤ a := Nat.and_le_left
  omega
theorem mask_eq {x m y : Wd} (hx : wdRight x = true) (hm : wdRight m = true) (hy : wdRight y = true) : (bits .and .u64 (bitsW x) (bitsW m) == bitsW y) = ((wdAnd x m).h == y.h && (wdAnd x m).l == y.l) := by
  obtain ⟨u0, u1⟩ := and_u64_bd x m
  have ha := and_halves hx hm
  rw [← bits_halves _ u0 u1, ha]
  have hw : wdAnd x m = ⟨andI x.h m.h, andI x.l m.l⟩ := by unfold wdAnd; rw [hx, hm]; rfl
  rw [hw, ← bits_eq (by rw [← ha]; exact halves_right _ u0 u1) hy]
theorem cqRight_parts {a o mh ml vh vl : Int} (h : cqRight ⟨a, o, mh, ml, vh, vl⟩ = true) : (1 ≤ o ∧ o ≤ 7) ∧ wdRight ⟨mh, ml⟩ = true ∧ wdRight ⟨vh, vl⟩ = true := by
  unfold cqRight isB at h
  simp only [Bool.and_eq_true, decide_eq_true_eq] at h
  exact ⟨h.1.1.1.2, h.1.1.2, h.1.2⟩

set_option maxHeartbeats 1600000 in
theorem implHolds_equal (a mh ml vh vl h l : Int) (w : World) (h1 : cqRight ⟨a, 1, mh, ml, vh, vl⟩ = true) (hw : wdRight ⟨h, l⟩ = true) : Calls Try.prog 14 #[cqV ⟨a, 1, mh, ml, vh, vl⟩, .agg #[.int .i64 h, .int .i64 l]] w fun e w' =>
    e = .returned (.bool (cqHolds0 ⟨a, 1, mh, ml, vh, vl⟩ ⟨h, l⟩)) ∧ Below w.heap.size w w' := by
  have q1 := fun W => implCmpRight_any a 1 mh ml vh vl W
  have q2 := fun W => implWordRight_any h l W
  have q3 := fun W => comparisonOf_any a 1 mh ml vh vl W
  have q4 := fun W => bitsOf_any h l W
  have q5 := fun W => equal_any (bitsW ⟨vh, vl⟩) (bitsW ⟨h, l⟩) W
  rw [h1] at q1
  rw [hw] at q2
  obtain ⟨_, hm, hv⟩ := cqRight_parts h1
  rw [show (bitsW ⟨h, l⟩ == bitsW ⟨vh, vl⟩) = cqHolds0 ⟨a, 1, mh, ml, vh, vl⟩ ⟨h, l⟩ from by rw [bits_eq hw hv]; rfl] at q5
  rw [show cmpI ⟨a, 1, mh, ml, vh, vl⟩ = .iface 142 (.int .u64 (bitsW ⟨vh, vl⟩)) from rfl] at q3
  generalize cqHolds0 ⟨a, 1, mh, ml, vh, vl⟩ ⟨h, l⟩ = r at *
  generalize bitsW ⟨vh, vl⟩ = bv at *
  generalize bitsW ⟨mh, ml⟩ = bm at *
  generalize bitsW ⟨h, l⟩ = bw at *
  have tm := method_equal
  have Q1 := Lib.hid q1
  have Q2 := Lib.hid q2
  have Q3 := Lib.hid q3
  have Q4 := Lib.hid q4
  have Q5 := Lib.hid q5
  clear q1 q2 q3 q4 q5 h1 hw hm hv
  go_enter Try.func14, Try.ntmps14
  go_wp2_with fail
  refine (Q1.out _).mono ?_
  rintro e w1 ⟨rfl, hb1⟩
  have hb2 := box2 hb1
  have d0 := hb2.2.1 0
  have d1 := hb2.2.1 1
  simp only [List.getElem?_toArray, List.getElem?_cons_zero, List.getElem?_cons_succ] at d0 d1
  have HB := Lib.hid hb1
  clear hb1 hb2
  go_wp2_with fail
  refine (Q2.out _).mono ?_
  rintro e w2 ⟨rfl, hb3⟩
  have HC := Lib.hid (HB.out.trans (hb3.mono HB.out.size))
  clear hb3 d0 d1
  have hb2 := box2 HC.out
  have c0 := hb2.1 0
  have c1 := hb2.1 1
  have c2 := hb2.1 2
  have c3 := hb2.1 3
  have c4 := hb2.1 4
  have c5 := hb2.1 5
  simp only [List.getElem?_toArray, List.getElem?_cons_zero, List.getElem?_cons_succ] at c0 c1 c2 c3 c4 c5
  clear hb2
  go_wp2_with fail
  refine (Q3.out _).mono ?_
  rintro e w3 ⟨rfl, hb4⟩
  have HE := Lib.hid (HC.out.trans (hb4.mono HC.out.size))
  clear hb4 c0 c1 c2 c3 c4 c5
  have hb2 := box2 HE.out
  have d0 := hb2.2.1 0
  have d1 := hb2.2.1 1
  simp only [List.getElem?_toArray, List.getElem?_cons_zero, List.getElem?_cons_succ] at d0 d1
  clear hb2
  go_wp2_with fail
  refine (Q4.out _).mono ?_
  rintro e w4 ⟨rfl, hb4⟩
  have HF := Lib.hid (HE.out.trans (hb4.mono HE.out.size))
  clear hb4 d0 d1
  go_wp2_with fail
  refine (Q5.out _).mono ?_
  rintro e w5 ⟨rfl, hb5⟩
  have HX := Lib.hid (box2 (HF.out.trans (hb5.mono HF.out.size))).2.2
  clear hb5
  go_wp2_with fail
  go_ret
  exact ⟨rfl, HX.out⟩

set_option maxHeartbeats 1600000 in
theorem implHolds_unlike (a mh ml vh vl h l : Int) (w : World) (h1 : cqRight ⟨a, 2, mh, ml, vh, vl⟩ = true) (hw : wdRight ⟨h, l⟩ = true) : Calls Try.prog 14 #[cqV ⟨a, 2, mh, ml, vh, vl⟩, .agg #[.int .i64 h, .int .i64 l]] w fun e w' =>
    e = .returned (.bool (cqHolds0 ⟨a, 2, mh, ml, vh, vl⟩ ⟨h, l⟩)) ∧ Below w.heap.size w w' := by
  have q1 := fun W => implCmpRight_any a 2 mh ml vh vl W
  have q2 := fun W => implWordRight_any h l W
  have q3 := fun W => comparisonOf_any a 2 mh ml vh vl W
  have q4 := fun W => bitsOf_any h l W
  have q5 := fun W => unlike_any (bitsW ⟨vh, vl⟩) (bitsW ⟨h, l⟩) W
  rw [h1] at q1
  rw [hw] at q2
  obtain ⟨_, hm, hv⟩ := cqRight_parts h1
  rw [show (bitsW ⟨h, l⟩ != bitsW ⟨vh, vl⟩) = cqHolds0 ⟨a, 2, mh, ml, vh, vl⟩ ⟨h, l⟩ from by rw [bne, bits_eq hw hv]; rfl] at q5
  rw [show cmpI ⟨a, 2, mh, ml, vh, vl⟩ = .iface 143 (.int .u64 (bitsW ⟨vh, vl⟩)) from rfl] at q3
  generalize cqHolds0 ⟨a, 2, mh, ml, vh, vl⟩ ⟨h, l⟩ = r at *
  generalize bitsW ⟨vh, vl⟩ = bv at *
  generalize bitsW ⟨mh, ml⟩ = bm at *
  generalize bitsW ⟨h, l⟩ = bw at *
  have tm := method_unlike
  have Q1 := Lib.hid q1
  have Q2 := Lib.hid q2
  have Q3 := Lib.hid q3
  have Q4 := Lib.hid q4
  have Q5 := Lib.hid q5
  clear q1 q2 q3 q4 q5 h1 hw hm hv
  go_enter Try.func14, Try.ntmps14
  go_wp2_with fail
  refine (Q1.out _).mono ?_
  rintro e w1 ⟨rfl, hb1⟩
  have hb2 := box2 hb1
  have d0 := hb2.2.1 0
  have d1 := hb2.2.1 1
  simp only [List.getElem?_toArray, List.getElem?_cons_zero, List.getElem?_cons_succ] at d0 d1
  have HB := Lib.hid hb1
  clear hb1 hb2
  go_wp2_with fail
  refine (Q2.out _).mono ?_
  rintro e w2 ⟨rfl, hb3⟩
  have HC := Lib.hid (HB.out.trans (hb3.mono HB.out.size))
  clear hb3 d0 d1
  have hb2 := box2 HC.out
  have c0 := hb2.1 0
  have c1 := hb2.1 1
  have c2 := hb2.1 2
  have c3 := hb2.1 3
  have c4 := hb2.1 4
  have c5 := hb2.1 5
  simp only [List.getElem?_toArray, List.getElem?_cons_zero, List.getElem?_cons_succ] at c0 c1 c2 c3 c4 c5
  clear hb2
  go_wp2_with fail
  refine (Q3.out _).mono ?_
  rintro e w3 ⟨rfl, hb4⟩
  have HE := Lib.hid (HC.out.trans (hb4.mono HC.out.size))
  clear hb4 c0 c1 c2 c3 c4 c5
  have hb2 := box2 HE.out
  have d0 := hb2.2.1 0
  have d1 := hb2.2.1 1
  simp only [List.getElem?_toArray, List.getElem?_cons_zero, List.getElem?_cons_succ] at d0 d1
  clear hb2
  go_wp2_with fail
  refine (Q4.out _).mono ?_
  rintro e w4 ⟨rfl, hb4⟩
  have HF := Lib.hid (HE.out.trans (hb4.mono HE.out.size))
  clear hb4 d0 d1
  go_wp2_with fail
  refine (Q5.out _).mono ?_
  rintro e w5 ⟨rfl, hb5⟩
  have HX := Lib.hid (box2 (HF.out.trans (hb5.mono HF.out.size))).2.2
  clear hb5
  go_wp2_with fail
  go_ret
  exact ⟨rfl, HX.out⟩

set_option maxHeartbeats 1600000 in
theorem implHolds_less (a mh ml vh vl h l : Int) (w : World) (h1 : cqRight ⟨a, 3, mh, ml, vh, vl⟩ = true) (hw : wdRight ⟨h, l⟩ = true) : Calls Try.prog 14 #[cqV ⟨a, 3, mh, ml, vh, vl⟩, .agg #[.int .i64 h, .int .i64 l]] w fun e w' =>
    e = .returned (.bool (cqHolds0 ⟨a, 3, mh, ml, vh, vl⟩ ⟨h, l⟩)) ∧ Below w.heap.size w w' := by
  have q1 := fun W => implCmpRight_any a 3 mh ml vh vl W
  have q2 := fun W => implWordRight_any h l W
  have q3 := fun W => comparisonOf_any a 3 mh ml vh vl W
  have q4 := fun W => bitsOf_any h l W
  have q5 := fun W => less_any (bitsW ⟨vh, vl⟩) (bitsW ⟨h, l⟩) W
  rw [h1] at q1
  rw [hw] at q2
  obtain ⟨_, hm, hv⟩ := cqRight_parts h1
  rw [show decide (bitsW ⟨h, l⟩ < bitsW ⟨vh, vl⟩) = cqHolds0 ⟨a, 3, mh, ml, vh, vl⟩ ⟨h, l⟩ from by rw [less_bits hw hv]; rfl] at q5
  rw [show cmpI ⟨a, 3, mh, ml, vh, vl⟩ = .iface 144 (.int .u64 (bitsW ⟨vh, vl⟩)) from rfl] at q3
  generalize cqHolds0 ⟨a, 3, mh, ml, vh, vl⟩ ⟨h, l⟩ = r at *
  generalize bitsW ⟨vh, vl⟩ = bv at *
  generalize bitsW ⟨mh, ml⟩ = bm at *
  generalize bitsW ⟨h, l⟩ = bw at *
  have tm := method_less
  have Q1 := Lib.hid q1
  have Q2 := Lib.hid q2
  have Q3 := Lib.hid q3
  have Q4 := Lib.hid q4
  have Q5 := Lib.hid q5
  clear q1 q2 q3 q4 q5 h1 hw hm hv
  go_enter Try.func14, Try.ntmps14
  go_wp2_with fail
  refine (Q1.out _).mono ?_
  rintro e w1 ⟨rfl, hb1⟩
  have hb2 := box2 hb1
  have d0 := hb2.2.1 0
  have d1 := hb2.2.1 1
  simp only [List.getElem?_toArray, List.getElem?_cons_zero, List.getElem?_cons_succ] at d0 d1
  have HB := Lib.hid hb1
  clear hb1 hb2
  go_wp2_with fail
  refine (Q2.out _).mono ?_
  rintro e w2 ⟨rfl, hb3⟩
  have HC := Lib.hid (HB.out.trans (hb3.mono HB.out.size))
  clear hb3 d0 d1
  have hb2 := box2 HC.out
  have c0 := hb2.1 0
  have c1 := hb2.1 1
  have c2 := hb2.1 2
  have c3 := hb2.1 3
  have c4 := hb2.1 4
  have c5 := hb2.1 5
  simp only [List.getElem?_toArray, List.getElem?_cons_zero, List.getElem?_cons_succ] at c0 c1 c2 c3 c4 c5
  clear hb2
  go_wp2_with fail
  refine (Q3.out _).mono ?_
  rintro e w3 ⟨rfl, hb4⟩
  have HE := Lib.hid (HC.out.trans (hb4.mono HC.out.size))
  clear hb4 c0 c1 c2 c3 c4 c5
  have hb2 := box2 HE.out
  have d0 := hb2.2.1 0
  have d1 := hb2.2.1 1
  simp only [List.getElem?_toArray, List.getElem?_cons_zero, List.getElem?_cons_succ] at d0 d1
  clear hb2
  go_wp2_with fail
  refine (Q4.out _).mono ?_
  rintro e w4 ⟨rfl, hb4⟩
  have HF := Lib.hid (HE.out.trans (hb4.mono HE.out.size))
  clear hb4 d0 d1
  go_wp2_with fail
  refine (Q5.out _).mono ?_
  rintro e w5 ⟨rfl, hb5⟩
  have HX := Lib.hid (box2 (HF.out.trans (hb5.mono HF.out.size))).2.2
  clear hb5
  go_wp2_with fail
  go_ret
  exact ⟨rfl, HX.out⟩

set_option maxHeartbeats 1600000 in
theorem implHolds_notMore (a mh ml vh vl h l : Int) (w : World) (h1 : cqRight ⟨a, 4, mh, ml, vh, vl⟩ = true) (hw : wdRight ⟨h, l⟩ = true) : Calls Try.prog 14 #[cqV ⟨a, 4, mh, ml, vh, vl⟩, .agg #[.int .i64 h, .int .i64 l]] w fun e w' =>
    e = .returned (.bool (cqHolds0 ⟨a, 4, mh, ml, vh, vl⟩ ⟨h, l⟩)) ∧ Below w.heap.size w w' := by
  have q1 := fun W => implCmpRight_any a 4 mh ml vh vl W
  have q2 := fun W => implWordRight_any h l W
  have q3 := fun W => comparisonOf_any a 4 mh ml vh vl W
  have q4 := fun W => bitsOf_any h l W
  have q5 := fun W => notMore_any (bitsW ⟨vh, vl⟩) (bitsW ⟨h, l⟩) W
  rw [h1] at q1
  rw [hw] at q2
  obtain ⟨_, hm, hv⟩ := cqRight_parts h1
  rw [show decide (bitsW ⟨h, l⟩ ≤ bitsW ⟨vh, vl⟩) = cqHolds0 ⟨a, 4, mh, ml, vh, vl⟩ ⟨h, l⟩ from by rw [show decide (bitsW ⟨h, l⟩ ≤ bitsW ⟨vh, vl⟩) = !decide (bitsW ⟨vh, vl⟩ < bitsW ⟨h, l⟩) from le_not _ _, less_bits hv hw]; rfl] at q5
  rw [show cmpI ⟨a, 4, mh, ml, vh, vl⟩ = .iface 145 (.int .u64 (bitsW ⟨vh, vl⟩)) from rfl] at q3
  generalize cqHolds0 ⟨a, 4, mh, ml, vh, vl⟩ ⟨h, l⟩ = r at *
  generalize bitsW ⟨vh, vl⟩ = bv at *
  generalize bitsW ⟨mh, ml⟩ = bm at *
  generalize bitsW ⟨h, l⟩ = bw at *
  have tm := method_notMore
  have Q1 := Lib.hid q1
  have Q2 := Lib.hid q2
  have Q3 := Lib.hid q3
  have Q4 := Lib.hid q4
  have Q5 := Lib.hid q5
  clear q1 q2 q3 q4 q5 h1 hw hm hv
  go_enter Try.func14, Try.ntmps14
  go_wp2_with fail
  refine (Q1.out _).mono ?_
  rintro e w1 ⟨rfl, hb1⟩
  have hb2 := box2 hb1
  have d0 := hb2.2.1 0
  have d1 := hb2.2.1 1
  simp only [List.getElem?_toArray, List.getElem?_cons_zero, List.getElem?_cons_succ] at d0 d1
  have HB := Lib.hid hb1
  clear hb1 hb2
  go_wp2_with fail
  refine (Q2.out _).mono ?_
  rintro e w2 ⟨rfl, hb3⟩
  have HC := Lib.hid (HB.out.trans (hb3.mono HB.out.size))
  clear hb3 d0 d1
  have hb2 := box2 HC.out
  have c0 := hb2.1 0
  have c1 := hb2.1 1
  have c2 := hb2.1 2
  have c3 := hb2.1 3
  have c4 := hb2.1 4
  have c5 := hb2.1 5
  simp only [List.getElem?_toArray, List.getElem?_cons_zero, List.getElem?_cons_succ] at c0 c1 c2 c3 c4 c5
  clear hb2
  go_wp2_with fail
  refine (Q3.out _).mono ?_
  rintro e w3 ⟨rfl, hb4⟩
  have HE := Lib.hid (HC.out.trans (hb4.mono HC.out.size))
  clear hb4 c0 c1 c2 c3 c4 c5
  have hb2 := box2 HE.out
  have d0 := hb2.2.1 0
  have d1 := hb2.2.1 1
  simp only [List.getElem?_toArray, List.getElem?_cons_zero, List.getElem?_cons_succ] at d0 d1
  clear hb2
  go_wp2_with fail
  refine (Q4.out _).mono ?_
  rintro e w4 ⟨rfl, hb4⟩
  have HF := Lib.hid (HE.out.trans (hb4.mono HE.out.size))
  clear hb4 d0 d1
  go_wp2_with fail
  refine (Q5.out _).mono ?_
  rintro e w5 ⟨rfl, hb5⟩
  have HX := Lib.hid (box2 (HF.out.trans (hb5.mono HF.out.size))).2.2
  clear hb5
  go_wp2_with fail
  go_ret
  exact ⟨rfl, HX.out⟩

set_option maxHeartbeats 1600000 in
theorem implHolds_more (a mh ml vh vl h l : Int) (w : World) (h1 : cqRight ⟨a, 5, mh, ml, vh, vl⟩ = true) (hw : wdRight ⟨h, l⟩ = true) : Calls Try.prog 14 #[cqV ⟨a, 5, mh, ml, vh, vl⟩, .agg #[.int .i64 h, .int .i64 l]] w fun e w' =>
    e = .returned (.bool (cqHolds0 ⟨a, 5, mh, ml, vh, vl⟩ ⟨h, l⟩)) ∧ Below w.heap.size w w' := by
  have q1 := fun W => implCmpRight_any a 5 mh ml vh vl W
  have q2 := fun W => implWordRight_any h l W
  have q3 := fun W => comparisonOf_any a 5 mh ml vh vl W
  have q4 := fun W => bitsOf_any h l W
  have q5 := fun W => more_any (bitsW ⟨vh, vl⟩) (bitsW ⟨h, l⟩) W
  rw [h1] at q1
  rw [hw] at q2
  obtain ⟨_, hm, hv⟩ := cqRight_parts h1
  rw [show decide (bitsW ⟨vh, vl⟩ < bitsW ⟨h, l⟩) = cqHolds0 ⟨a, 5, mh, ml, vh, vl⟩ ⟨h, l⟩ from by rw [less_bits hv hw]; rfl] at q5
  rw [show cmpI ⟨a, 5, mh, ml, vh, vl⟩ = .iface 146 (.int .u64 (bitsW ⟨vh, vl⟩)) from rfl] at q3
  generalize cqHolds0 ⟨a, 5, mh, ml, vh, vl⟩ ⟨h, l⟩ = r at *
  generalize bitsW ⟨vh, vl⟩ = bv at *
  generalize bitsW ⟨mh, ml⟩ = bm at *
  generalize bitsW ⟨h, l⟩ = bw at *
  have tm := method_more
  have Q1 := Lib.hid q1
  have Q2 := Lib.hid q2
  have Q3 := Lib.hid q3
  have Q4 := Lib.hid q4
  have Q5 := Lib.hid q5
  clear q1 q2 q3 q4 q5 h1 hw hm hv
  go_enter Try.func14, Try.ntmps14
  go_wp2_with fail
  refine (Q1.out _).mono ?_
  rintro e w1 ⟨rfl, hb1⟩
  have hb2 := box2 hb1
  have d0 := hb2.2.1 0
  have d1 := hb2.2.1 1
  simp only [List.getElem?_toArray, List.getElem?_cons_zero, List.getElem?_cons_succ] at d0 d1
  have HB := Lib.hid hb1
  clear hb1 hb2
  go_wp2_with fail
  refine (Q2.out _).mono ?_
  rintro e w2 ⟨rfl, hb3⟩
  have HC := Lib.hid (HB.out.trans (hb3.mono HB.out.size))
  clear hb3 d0 d1
  have hb2 := box2 HC.out
  have c0 := hb2.1 0
  have c1 := hb2.1 1
  have c2 := hb2.1 2
  have c3 := hb2.1 3
  have c4 := hb2.1 4
  have c5 := hb2.1 5
  simp only [List.getElem?_toArray, List.getElem?_cons_zero, List.getElem?_cons_succ] at c0 c1 c2 c3 c4 c5
  clear hb2
  go_wp2_with fail
  refine (Q3.out _).mono ?_
  rintro e w3 ⟨rfl, hb4⟩
  have HE := Lib.hid (HC.out.trans (hb4.mono HC.out.size))
  clear hb4 c0 c1 c2 c3 c4 c5
  have hb2 := box2 HE.out
  have d0 := hb2.2.1 0
  have d1 := hb2.2.1 1
  simp only [List.getElem?_toArray, List.getElem?_cons_zero, List.getElem?_cons_succ] at d0 d1
  clear hb2
  go_wp2_with fail
  refine (Q4.out _).mono ?_
  rintro e w4 ⟨rfl, hb4⟩
  have HF := Lib.hid (HE.out.trans (hb4.mono HE.out.size))
  clear hb4 d0 d1
  go_wp2_with fail
  refine (Q5.out _).mono ?_
  rintro e w5 ⟨rfl, hb5⟩
  have HX := Lib.hid (box2 (HF.out.trans (hb5.mono HF.out.size))).2.2
  clear hb5
  go_wp2_with fail
  go_ret
  exact ⟨rfl, HX.out⟩

set_option maxHeartbeats 1600000 in
theorem implHolds_notLess (a mh ml vh vl h l : Int) (w : World) (h1 : cqRight ⟨a, 6, mh, ml, vh, vl⟩ = true) (hw : wdRight ⟨h, l⟩ = true) : Calls Try.prog 14 #[cqV ⟨a, 6, mh, ml, vh, vl⟩, .agg #[.int .i64 h, .int .i64 l]] w fun e w' =>
    e = .returned (.bool (cqHolds0 ⟨a, 6, mh, ml, vh, vl⟩ ⟨h, l⟩)) ∧ Below w.heap.size w w' := by
  have q1 := fun W => implCmpRight_any a 6 mh ml vh vl W
  have q2 := fun W => implWordRight_any h l W
  have q3 := fun W => comparisonOf_any a 6 mh ml vh vl W
  have q4 := fun W => bitsOf_any h l W
  have q5 := fun W => notLess_any (bitsW ⟨vh, vl⟩) (bitsW ⟨h, l⟩) W
  rw [h1] at q1
  rw [hw] at q2
  obtain ⟨_, hm, hv⟩ := cqRight_parts h1
  rw [show decide (bitsW ⟨vh, vl⟩ ≤ bitsW ⟨h, l⟩) = cqHolds0 ⟨a, 6, mh, ml, vh, vl⟩ ⟨h, l⟩ from by rw [show decide (bitsW ⟨vh, vl⟩ ≤ bitsW ⟨h, l⟩) = !decide (bitsW ⟨h, l⟩ < bitsW ⟨vh, vl⟩) from le_not _ _, less_bits hw hv]; rfl] at q5
  rw [show cmpI ⟨a, 6, mh, ml, vh, vl⟩ = .iface 147 (.int .u64 (bitsW ⟨vh, vl⟩)) from rfl] at q3
  generalize cqHolds0 ⟨a, 6, mh, ml, vh, vl⟩ ⟨h, l⟩ = r at *
  generalize bitsW ⟨vh, vl⟩ = bv at *
  generalize bitsW ⟨mh, ml⟩ = bm at *
  generalize bitsW ⟨h, l⟩ = bw at *
  have tm := method_notLess
  have Q1 := Lib.hid q1
  have Q2 := Lib.hid q2
  have Q3 := Lib.hid q3
  have Q4 := Lib.hid q4
  have Q5 := Lib.hid q5
  clear q1 q2 q3 q4 q5 h1 hw hm hv
  go_enter Try.func14, Try.ntmps14
  go_wp2_with fail
  refine (Q1.out _).mono ?_
  rintro e w1 ⟨rfl, hb1⟩
  have hb2 := box2 hb1
  have d0 := hb2.2.1 0
  have d1 := hb2.2.1 1
  simp only [List.getElem?_toArray, List.getElem?_cons_zero, List.getElem?_cons_succ] at d0 d1
  have HB := Lib.hid hb1
  clear hb1 hb2
  go_wp2_with fail
  refine (Q2.out _).mono ?_
  rintro e w2 ⟨rfl, hb3⟩
  have HC := Lib.hid (HB.out.trans (hb3.mono HB.out.size))
  clear hb3 d0 d1
  have hb2 := box2 HC.out
  have c0 := hb2.1 0
  have c1 := hb2.1 1
  have c2 := hb2.1 2
  have c3 := hb2.1 3
  have c4 := hb2.1 4
  have c5 := hb2.1 5
  simp only [List.getElem?_toArray, List.getElem?_cons_zero, List.getElem?_cons_succ] at c0 c1 c2 c3 c4 c5
  clear hb2
  go_wp2_with fail
  refine (Q3.out _).mono ?_
  rintro e w3 ⟨rfl, hb4⟩
  have HE := Lib.hid (HC.out.trans (hb4.mono HC.out.size))
  clear hb4 c0 c1 c2 c3 c4 c5
  have hb2 := box2 HE.out
  have d0 := hb2.2.1 0
  have d1 := hb2.2.1 1
  simp only [List.getElem?_toArray, List.getElem?_cons_zero, List.getElem?_cons_succ] at d0 d1
  clear hb2
  go_wp2_with fail
  refine (Q4.out _).mono ?_
  rintro e w4 ⟨rfl, hb4⟩
  have HF := Lib.hid (HE.out.trans (hb4.mono HE.out.size))
  clear hb4 d0 d1
  go_wp2_with fail
  refine (Q5.out _).mono ?_
  rintro e w5 ⟨rfl, hb5⟩
  have HX := Lib.hid (box2 (HF.out.trans (hb5.mono HF.out.size))).2.2
  clear hb5
  go_wp2_with fail
  go_ret
  exact ⟨rfl, HX.out⟩

set_option maxHeartbeats 1600000 in
theorem implHolds_masked (a mh ml vh vl h l : Int) (w : World) (h1 : cqRight ⟨a, 7, mh, ml, vh, vl⟩ = true) (hw : wdRight ⟨h, l⟩ = true) : Calls Try.prog 14 #[cqV ⟨a, 7, mh, ml, vh, vl⟩, .agg #[.int .i64 h, .int .i64 l]] w fun e w' =>
    e = .returned (.bool (cqHolds0 ⟨a, 7, mh, ml, vh, vl⟩ ⟨h, l⟩)) ∧ Below w.heap.size w w' := by
  have q1 := fun W => implCmpRight_any a 7 mh ml vh vl W
  have q2 := fun W => implWordRight_any h l W
  have q3 := fun W => comparisonOf_any a 7 mh ml vh vl W
  have q4 := fun W => bitsOf_any h l W
  have q5 := fun W => masked_any (bitsW ⟨mh, ml⟩) (bitsW ⟨vh, vl⟩) (bitsW ⟨h, l⟩) W
  rw [h1] at q1
  rw [hw] at q2
  obtain ⟨_, hm, hv⟩ := cqRight_parts h1
  rw [show (bits .and .u64 (bitsW ⟨h, l⟩) (bitsW ⟨mh, ml⟩) == bitsW ⟨vh, vl⟩) = cqHolds0 ⟨a, 7, mh, ml, vh, vl⟩ ⟨h, l⟩ from by rw [mask_eq hw hm hv]; rfl] at q5
  rw [show cmpI ⟨a, 7, mh, ml, vh, vl⟩ = .iface 149 (.agg #[.int .u64 (bitsW ⟨mh, ml⟩), .int .u64 (bitsW ⟨vh, vl⟩)]) from rfl] at q3
  generalize cqHolds0 ⟨a, 7, mh, ml, vh, vl⟩ ⟨h, l⟩ = r at *
  generalize bitsW ⟨vh, vl⟩ = bv at *
  generalize bitsW ⟨mh, ml⟩ = bm at *
  generalize bitsW ⟨h, l⟩ = bw at *
  have tm := method_masked
  have Q1 := Lib.hid q1
  have Q2 := Lib.hid q2
  have Q3 := Lib.hid q3
  have Q4 := Lib.hid q4
  have Q5 := Lib.hid q5
  clear q1 q2 q3 q4 q5 h1 hw hm hv
  go_enter Try.func14, Try.ntmps14
  go_wp2_with fail
  refine (Q1.out _).mono ?_
  rintro e w1 ⟨rfl, hb1⟩
  have hb2 := box2 hb1
  have d0 := hb2.2.1 0
  have d1 := hb2.2.1 1
  simp only [List.getElem?_toArray, List.getElem?_cons_zero, List.getElem?_cons_succ] at d0 d1
  have HB := Lib.hid hb1
  clear hb1 hb2
  go_wp2_with fail
  refine (Q2.out _).mono ?_
  rintro e w2 ⟨rfl, hb3⟩
  have HC := Lib.hid (HB.out.trans (hb3.mono HB.out.size))
  clear hb3 d0 d1
  have hb2 := box2 HC.out
  have c0 := hb2.1 0
  have c1 := hb2.1 1
  have c2 := hb2.1 2
  have c3 := hb2.1 3
  have c4 := hb2.1 4
  have c5 := hb2.1 5
  simp only [List.getElem?_toArray, List.getElem?_cons_zero, List.getElem?_cons_succ] at c0 c1 c2 c3 c4 c5
  clear hb2
  go_wp2_with fail
  refine (Q3.out _).mono ?_
  rintro e w3 ⟨rfl, hb4⟩
  have HE := Lib.hid (HC.out.trans (hb4.mono HC.out.size))
  clear hb4 c0 c1 c2 c3 c4 c5
  have hb2 := box2 HE.out
  have d0 := hb2.2.1 0
  have d1 := hb2.2.1 1
  simp only [List.getElem?_toArray, List.getElem?_cons_zero, List.getElem?_cons_succ] at d0 d1
  clear hb2
  go_wp2_with fail
  refine (Q4.out _).mono ?_
  rintro e w4 ⟨rfl, hb4⟩
  have HF := Lib.hid (HE.out.trans (hb4.mono HE.out.size))
  clear hb4 d0 d1
  go_wp2_with fail
  refine (Q5.out _).mono ?_
  rintro e w5 ⟨rfl, hb5⟩
  have HX := Lib.hid (box2 (HF.out.trans (hb5.mono HF.out.size))).2.2
  clear hb5
  go_wp2_with fail
  go_ret
  exact ⟨rfl, HX.out⟩

set_option maxHeartbeats 1600000 in
theorem implCmpHolds_any (a o mh ml vh vl h l : Int) (w : World) : Calls Try.prog 14 #[cqV ⟨a, o, mh, ml, vh, vl⟩, .agg #[.int .i64 h, .int .i64 l]] w fun e w' =>
    e = .returned (.bool (cqHolds ⟨a, o, mh, ml, vh, vl⟩ ⟨h, l⟩)) ∧ Below w.heap.size w w' := by
  have hr : cqHolds ⟨a, o, mh, ml, vh, vl⟩ ⟨h, l⟩ = (cqRight ⟨a, o, mh, ml, vh, vl⟩ && wdRight ⟨h, l⟩ && cqHolds0 ⟨a, o, mh, ml, vh, vl⟩ ⟨h, l⟩) := rfl
  cases h1 : cqRight ⟨a, o, mh, ml, vh, vl⟩
  · have q1 := fun W => implCmpRight_any a o mh ml vh vl W
    rw [h1] at q1
    have HR := Lib.hid (show cqHolds ⟨a, o, mh, ml, vh, vl⟩ ⟨h, l⟩ = false by rw [hr, h1]; rfl)
    have Q1 := Lib.hid q1
    clear hr q1 h1
    go_enter Try.func14, Try.ntmps14
    go_wp2_with fail
    refine (Q1.out _).mono ?_
    rintro e w1 ⟨rfl, hb1⟩
    have HB := Lib.hid (box2 hb1).2.2
    clear hb1
    go_wp2_with fail
    go_ret
    exact ⟨ret_bool HR.out.symm, HB.out⟩
  cases h2 : wdRight ⟨h, l⟩
  · have q1 := fun W => implCmpRight_any a o mh ml vh vl W
    rw [h1] at q1
    have q2 := fun W => implWordRight_any h l W
    rw [h2] at q2
    have HR := Lib.hid (show cqHolds ⟨a, o, mh, ml, vh, vl⟩ ⟨h, l⟩ = false by rw [hr, h1, h2]; rfl)
    have Q1 := Lib.hid q1
    have Q2 := Lib.hid q2
    clear hr q1 q2 h1 h2
    go_enter Try.func14, Try.ntmps14
    go_wp2_with fail
    refine (Q1.out _).mono ?_
    rintro e w1 ⟨rfl, hb1⟩
    have hb2 := box2 hb1
    have d0 := hb2.2.1 0
    have d1 := hb2.2.1 1
    simp only [List.getElem?_toArray, List.getElem?_cons_zero, List.getElem?_cons_succ] at d0 d1
    have HB := Lib.hid hb1
    clear hb1 hb2
    go_wp2_with fail
    refine (Q2.out _).mono ?_
    rintro e w2 ⟨rfl, hb3⟩
    have HC := Lib.hid (box2 (HB.out.trans (hb3.mono HB.out.size))).2.2
    clear hb3 d0 d1
    go_wp2_with fail
    go_ret
    exact ⟨ret_bool HR.out.symm, HC.out⟩
  rw [hr, h1, h2, Bool.true_and, Bool.true_and]
  obtain ⟨ho, _, _⟩ := cqRight_parts h1
  have ho' : o = 1 ∨ o = 2 ∨ o = 3 ∨ o = 4 ∨ o = 5 ∨ o = 6 ∨ o = 7 := by omega
  rcases ho' with rfl | rfl | rfl | rfl | rfl | rfl | rfl
  · exact implHolds_equal a mh ml vh vl h l w h1 h2
  · exact implHolds_unlike a mh ml vh vl h l w h1 h2
  · exact implHolds_less a mh ml vh vl h l w h1 h2
  · exact implHolds_notMore a mh ml vh vl h l w h1 h2
  · exact implHolds_more a mh ml vh vl h l w h1 h2
  · exact implHolds_notLess a mh ml vh vl h l w h1 h2
  · exact implHolds_masked a mh ml vh vl h l w h1 h2

end Go.Proofs.Ytmnmaijifhojiaa
