/- Comparisons of the program: maskFits, CmpRight, the seven, CmpHolds walked. -/
import Derived.Test.YtmnmaijifhojiaaJb
set_option maxRecDepth 100000
namespace Go.Proofs.Ytmnmaijifhojiaa
open Go.RowKit
attribute [local go_sem ↓] Go.wp_at_zero Go.wp_at_succ

def cqFits (x : Cq) : Bool := isB x.o 1 7 && (if x.o = 7 then wdRight ⟨x.mh, x.ml⟩ else cqNone x)
theorem none_right {mh ml : Int} (h : (mh == 0 && ml == 0) = true) : wdRight ⟨mh, ml⟩ = true := by
  simp at h
  obtain ⟨rfl, rfl⟩ := h
  rfl
theorem cqRight_fits (x : Cq) : cqRight x = (isB x.a 0 5 && wdRight ⟨x.vh, x.vl⟩ && cqFits x) := by
  obtain ⟨a, o, mh, ml, vh, vl⟩ := x
  unfold cqRight cqFits cqNone
  simp only
  by_cases h : o = 7
  · subst h
    cases isB a 0 5 <;> cases wdRight ⟨mh, ml⟩ <;> cases wdRight ⟨vh, vl⟩ <;> rfl
  · have h' : (o == 7) = false := by simpa using h
    rw [if_neg h, h']
    cases hm : (mh == 0 && ml == 0) with
    | false => cases isB a 0 5 <;> cases isB o 1 7 <;> cases wdRight ⟨mh, ml⟩ <;> cases wdRight ⟨vh, vl⟩ <;> rfl
    | true =>
      rw [none_right hm]
      cases isB a 0 5 <;> cases isB o 1 7 <;> cases wdRight ⟨vh, vl⟩ <;> rfl

theorem as_equal (v : Value) (w : World) : (Instr.typeAssert (.iface 142 v) 107 149 true).run Try.prog w = .ok (.tuple #[.agg #[.int .u64 0, .int .u64 0], .bool false]) w := by kernel_rfl
theorem as_unlike (v : Value) (w : World) : (Instr.typeAssert (.iface 143 v) 107 149 true).run Try.prog w = .ok (.tuple #[.agg #[.int .u64 0, .int .u64 0], .bool false]) w := by kernel_rfl
theorem as_less (v : Value) (w : World) : (Instr.typeAssert (.iface 144 v) 107 149 true).run Try.prog w = .ok (.tuple #[.agg #[.int .u64 0, .int .u64 0], .bool false]) w := by kernel_rfl
theorem as_notMore (v : Value) (w : World) : (Instr.typeAssert (.iface 145 v) 107 149 true).run Try.prog w = .ok (.tuple #[.agg #[.int .u64 0, .int .u64 0], .bool false]) w := by kernel_rfl
theorem as_more (v : Value) (w : World) : (Instr.typeAssert (.iface 146 v) 107 149 true).run Try.prog w = .ok (.tuple #[.agg #[.int .u64 0, .int .u64 0], .bool false]) w := by kernel_rfl
theorem as_notLess (v : Value) (w : World) : (Instr.typeAssert (.iface 147 v) 107 149 true).run Try.prog w = .ok (.tuple #[.agg #[.int .u64 0, .int .u64 0], .bool false]) w := by kernel_rfl
theorem as_masked (v : Value) (w : World) : (Instr.typeAssert (.iface 149 v) 107 149 true).run Try.prog w = .ok (.tuple #[v, .bool true]) w := by kernel_rfl
theorem eql_nil (w : World) : Sem.run Try.prog (binOp BinOp.eql 107 Value.nilIface Value.nilIface) w = .ok (.bool true) w := by kernel_rfl

set_option maxHeartbeats 3200000 in
theorem maskFits_any (a o mh ml vh vl : Int) (w : World) : Calls Try.prog 83 #[cqV ⟨a, o, mh, ml, vh, vl⟩] w fun e w' =>
    e = .returned (.bool (cqFits ⟨a, o, mh, ml, vh, vl⟩)) ∧ Below w.heap.size w w' := by
  have q1 := fun W => comparisonOf_any a o mh ml vh vl W
  have q2 := fun W => implWordRight_any mh ml W
  have hr : cqFits ⟨a, o, mh, ml, vh, vl⟩ = (isB o 1 7 && (if o = 7 then wdRight ⟨mh, ml⟩ else (mh == 0 && ml == 0))) := rfl
  have hi : cmpI ⟨a, o, mh, ml, vh, vl⟩ = (if o = 1 then .iface 142 (.int .u64 (bitsW ⟨vh, vl⟩))
    else if o = 2 then .iface 143 (.int .u64 (bitsW ⟨vh, vl⟩))
    else if o = 3 then .iface 144 (.int .u64 (bitsW ⟨vh, vl⟩))
    else if o = 4 then .iface 145 (.int .u64 (bitsW ⟨vh, vl⟩))
    else if o = 5 then .iface 146 (.int .u64 (bitsW ⟨vh, vl⟩))
    else if o = 6 then .iface 147 (.int .u64 (bitsW ⟨vh, vl⟩))
    else if o = 7 then .iface 149 (.agg #[.int .u64 (bitsW ⟨mh, ml⟩), .int .u64 (bitsW ⟨vh, vl⟩)])
    else .nilIface) := rfl
  generalize cmpI ⟨a, o, mh, ml, vh, vl⟩ = ci at *
  generalize cqFits ⟨a, o, mh, ml, vh, vl⟩ = r at *
  generalize bitsW ⟨vh, vl⟩ = v at *
  generalize bitsW ⟨mh, ml⟩ = m at *
  by_cases ho : 1 ≤ o ∧ o ≤ 7
  · have ho' : o = 1 ∨ o = 2 ∨ o = 3 ∨ o = 4 ∨ o = 5 ∨ o = 6 ∨ o = 7 := by omega
    clear ho
    rcases ho' with rfl | rfl | rfl | rfl | rfl | rfl | rfl
    · obtain rfl : ci = .iface 142 (.int .u64 v) := hi
      have ta := as_equal
      have HR := Lib.hid (show r = (mh == 0 && ml == 0) from hr)
      have Q1 := Lib.hid q1
      clear q1 q2 hr
      go_enter Try.func83, Try.ntmps83
      go_wp2_with fail
      refine (Q1.out _).mono ?_
      rintro e w1 ⟨rfl, hb1⟩
      have c2 := box_cell hb1 2
      have c3 := box_cell hb1 3
      simp only [List.getElem?_toArray, List.getElem?_cons_zero, List.getElem?_cons_succ] at c2 c3
      have HB := Lib.hid (box_below hb1)
      clear hb1
      go_wp2_with fail
      all_goals
        go_ret
        exact ⟨ret_bool (HR.out.trans (by simp [*])).symm, HB.out⟩
    · obtain rfl : ci = .iface 143 (.int .u64 v) := hi
      have ta := as_unlike
      have HR := Lib.hid (show r = (mh == 0 && ml == 0) from hr)
      have Q1 := Lib.hid q1
      clear q1 q2 hr
      go_enter Try.func83, Try.ntmps83
      go_wp2_with fail
      refine (Q1.out _).mono ?_
      rintro e w1 ⟨rfl, hb1⟩
      have c2 := box_cell hb1 2
      have c3 := box_cell hb1 3
      simp only [List.getElem?_toArray, List.getElem?_cons_zero, List.getElem?_cons_succ] at c2 c3
      have HB := Lib.hid (box_below hb1)
      clear hb1
      go_wp2_with fail
      all_goals
        go_ret
        exact ⟨ret_bool (HR.out.trans (by simp [*])).symm, HB.out⟩
    · obtain rfl : ci = .iface 144 (.int .u64 v) := hi
      have ta := as_less
      have HR := Lib.hid (show r = (mh == 0 && ml == 0) from hr)
      have Q1 := Lib.hid q1
      clear q1 q2 hr
      go_enter Try.func83, Try.ntmps83
      go_wp2_with fail
      refine (Q1.out _).mono ?_
      rintro e w1 ⟨rfl, hb1⟩
      have c2 := box_cell hb1 2
      have c3 := box_cell hb1 3
      simp only [List.getElem?_toArray, List.getElem?_cons_zero, List.getElem?_cons_succ] at c2 c3
      have HB := Lib.hid (box_below hb1)
      clear hb1
      go_wp2_with fail
      all_goals
        go_ret
        exact ⟨ret_bool (HR.out.trans (by simp [*])).symm, HB.out⟩
    · obtain rfl : ci = .iface 145 (.int .u64 v) := hi
      have ta := as_notMore
      have HR := Lib.hid (show r = (mh == 0 && ml == 0) from hr)
      have Q1 := Lib.hid q1
      clear q1 q2 hr
      go_enter Try.func83, Try.ntmps83
      go_wp2_with fail
      refine (Q1.out _).mono ?_
      rintro e w1 ⟨rfl, hb1⟩
      have c2 := box_cell hb1 2
      have c3 := box_cell hb1 3
      simp only [List.getElem?_toArray, List.getElem?_cons_zero, List.getElem?_cons_succ] at c2 c3
      have HB := Lib.hid (box_below hb1)
      clear hb1
      go_wp2_with fail
      all_goals
        go_ret
        exact ⟨ret_bool (HR.out.trans (by simp [*])).symm, HB.out⟩
    · obtain rfl : ci = .iface 146 (.int .u64 v) := hi
      have ta := as_more
      have HR := Lib.hid (show r = (mh == 0 && ml == 0) from hr)
      have Q1 := Lib.hid q1
      clear q1 q2 hr
      go_enter Try.func83, Try.ntmps83
      go_wp2_with fail
      refine (Q1.out _).mono ?_
      rintro e w1 ⟨rfl, hb1⟩
      have c2 := box_cell hb1 2
      have c3 := box_cell hb1 3
      simp only [List.getElem?_toArray, List.getElem?_cons_zero, List.getElem?_cons_succ] at c2 c3
      have HB := Lib.hid (box_below hb1)
      clear hb1
      go_wp2_with fail
      all_goals
        go_ret
        exact ⟨ret_bool (HR.out.trans (by simp [*])).symm, HB.out⟩
    · obtain rfl : ci = .iface 147 (.int .u64 v) := hi
      have ta := as_notLess
      have HR := Lib.hid (show r = (mh == 0 && ml == 0) from hr)
      have Q1 := Lib.hid q1
      clear q1 q2 hr
      go_enter Try.func83, Try.ntmps83
      go_wp2_with fail
      refine (Q1.out _).mono ?_
      rintro e w1 ⟨rfl, hb1⟩
      have c2 := box_cell hb1 2
      have c3 := box_cell hb1 3
      simp only [List.getElem?_toArray, List.getElem?_cons_zero, List.getElem?_cons_succ] at c2 c3
      have HB := Lib.hid (box_below hb1)
      clear hb1
      go_wp2_with fail
      all_goals
        go_ret
        exact ⟨ret_bool (HR.out.trans (by simp [*])).symm, HB.out⟩
    · obtain rfl : ci = .iface 149 (.agg #[.int .u64 m, .int .u64 v]) := hi
      have ta := as_masked
      have HR := Lib.hid (show r = wdRight ⟨mh, ml⟩ from hr)
      have Q1 := Lib.hid q1
      have Q2 := Lib.hid q2
      clear q1 q2 hr
      go_enter Try.func83, Try.ntmps83
      go_wp2_with fail
      refine (Q1.out _).mono ?_
      rintro e w1 ⟨rfl, hb1⟩
      have c2 := box_cell hb1 2
      have c3 := box_cell hb1 3
      simp only [List.getElem?_toArray, List.getElem?_cons_zero, List.getElem?_cons_succ] at c2 c3
      have HB1 := Lib.hid hb1
      clear hb1
      go_wp2_with fail
      refine (Q2.out _).mono ?_
      rintro e w2 ⟨rfl, hb2⟩
      have HB := Lib.hid (box_below (HB1.out.trans (hb2.mono HB1.out.size)))
      clear hb2 c2 c3
      go_wp2_with fail
      go_ret
      exact ⟨ret_bool HR.out.symm, HB.out⟩
  · have tn := eql_nil
    have hn : ci = .nilIface := by
      rw [hi, if_neg (by omega), if_neg (by omega), if_neg (by omega), if_neg (by omega), if_neg (by omega), if_neg (by omega), if_neg (by omega)]
    have HR := Lib.hid (show r = false by rw [hr, isB_no (by omega)]; rfl)
    clear hi
    subst hn
    have Q1 := Lib.hid q1
    clear q1 q2 hr ho
    go_enter Try.func83, Try.ntmps83
    go_wp2_with fail
    refine (Q1.out _).mono ?_
    rintro e w1 ⟨rfl, hb1⟩
    have HB := Lib.hid (box_below hb1)
    clear hb1
    go_wp2_with fail
    go_ret
    exact ⟨ret_bool HR.out.symm, HB.out⟩

set_option maxHeartbeats 1600000 in
theorem implCmpRight_any (a o mh ml vh vl : Int) (w : World) : Calls Try.prog 33 #[cqV ⟨a, o, mh, ml, vh, vl⟩] w fun e w' =>
    e = .returned (.bool (cqRight ⟨a, o, mh, ml, vh, vl⟩)) ∧ Below w.heap.size w w' := by
  have q1 := fun W => implWordRight_any vh vl W
  have q2 := fun W => maskFits_any a o mh ml vh vl W
  have hr : cqRight ⟨a, o, mh, ml, vh, vl⟩ = (isB a 0 5 && wdRight ⟨vh, vl⟩ && cqFits ⟨a, o, mh, ml, vh, vl⟩) := cqRight_fits _
  generalize cqRight ⟨a, o, mh, ml, vh, vl⟩ = r at *
  generalize cqFits ⟨a, o, mh, ml, vh, vl⟩ = f at *
  have Q2 := Lib.hid q2
  cases h0 : isB a 0 5
  · have HR := Lib.hid (show r = false by rw [hr, h0]; simp)
    clear hr q1 q2
    go_enter Try.func33, Try.ntmps33
    go_wp2_with (go_at_call 77; refine (within_any _ _ _).mono ?_; rintro e w' ⟨rfl, rfl⟩)
    go_ret
    exact ⟨ret_bool HR.out.symm, (Below.refl _ _).alloc (Nat.le_refl _) _⟩
  cases h2 : wdRight ⟨vh, vl⟩ <;> rw [h2] at q1
  · have HR := Lib.hid (show r = false by rw [hr, h2]; simp)
    have Q1 := Lib.hid q1
    clear hr q1 q2 h2
    go_enter Try.func33, Try.ntmps33
    go_wp2_with (go_at_call 77; refine (within_any _ _ _).mono ?_; rintro e w' ⟨rfl, rfl⟩)
    refine (Q1.out _).mono ?_
    rintro e w1 ⟨rfl, hb1⟩
    have HB := Lib.hid (box_below hb1)
    clear hb1
    go_wp2_with fail
    go_ret
    exact ⟨ret_bool HR.out.symm, HB.out⟩
  have HR := Lib.hid (show r = f by rw [hr, h0, h2]; simp)
  have Q1 := Lib.hid q1
  clear hr q1 q2 h2
  go_enter Try.func33, Try.ntmps33
  go_wp2_with (go_at_call 77; refine (within_any _ _ _).mono ?_; rintro e w' ⟨rfl, rfl⟩)
  refine (Q1.out _).mono ?_
  rintro e w1 ⟨rfl, hb1⟩
  have c0 := box_cell hb1 0
  have c1 := box_cell hb1 1
  have c2 := box_cell hb1 2
  have c3 := box_cell hb1 3
  have c4 := box_cell hb1 4
  have c5 := box_cell hb1 5
  simp only [List.getElem?_toArray, List.getElem?_cons_zero, List.getElem?_cons_succ] at c0 c1 c2 c3 c4 c5
  have HB1 := Lib.hid hb1
  clear hb1
  go_wp2_with fail
  refine (Q2.out _).mono ?_
  rintro e w2 ⟨rfl, hb2⟩
  have HB := Lib.hid (box_below (HB1.out.trans (hb2.mono HB1.out.size)))
  clear hb2 c0 c1 c2 c3 c4 c5
  go_wp2_with fail
  go_ret
  exact ⟨ret_bool HR.out.symm, HB.out⟩

theorem equal_any (v n : Int) (w : World) : Calls Try.prog 132 #[.int .u64 v, .int .u64 n] w fun e w' => e = .returned (.bool ((n == v))) ∧ Below w.heap.size w w' := by
  by_cases h : n = v
  all_goals
    go_enter Try.func132, Try.ntmps132
    go_wp2_with fail
    go_ret
    exact ⟨ret_bool (by simp [*]), Below.refl _ _⟩

theorem unlike_any (v n : Int) (w : World) : Calls Try.prog 133 #[.int .u64 v, .int .u64 n] w fun e w' => e = .returned (.bool ((n != v))) ∧ Below w.heap.size w w' := by
  by_cases h : n = v
  all_goals
    go_enter Try.func133, Try.ntmps133
    go_wp2_with fail
    go_ret
    exact ⟨ret_bool (by simp [*]), Below.refl _ _⟩

theorem less_any (v n : Int) (w : World) : Calls Try.prog 134 #[.int .u64 v, .int .u64 n] w fun e w' => e = .returned (.bool (decide (n < v))) ∧ Below w.heap.size w w' := by
  by_cases h : n < v
  all_goals
    go_enter Try.func134, Try.ntmps134
    go_wp2_with fail
    go_ret
    exact ⟨ret_bool (by simp [*]), Below.refl _ _⟩

theorem notMore_any (v n : Int) (w : World) : Calls Try.prog 135 #[.int .u64 v, .int .u64 n] w fun e w' => e = .returned (.bool (decide (n ≤ v))) ∧ Below w.heap.size w w' := by
  by_cases h : n ≤ v
  all_goals
    go_enter Try.func135, Try.ntmps135
    go_wp2_with fail
    go_ret
    exact ⟨ret_bool (by simp [*]), Below.refl _ _⟩

theorem more_any (v n : Int) (w : World) : Calls Try.prog 136 #[.int .u64 v, .int .u64 n] w fun e w' => e = .returned (.bool (decide (v < n))) ∧ Below w.heap.size w w' := by
  by_cases h : v < n
  all_goals
    go_enter Try.func136, Try.ntmps136
    go_wp2_with fail
    go_ret
    exact ⟨ret_bool (by simp [*]), Below.refl _ _⟩

theorem notLess_any (v n : Int) (w : World) : Calls Try.prog 137 #[.int .u64 v, .int .u64 n] w fun e w' => e = .returned (.bool (decide (v ≤ n))) ∧ Below w.heap.size w w' := by
  by_cases h : v ≤ n
  all_goals
    go_enter Try.func137, Try.ntmps137
    go_wp2_with fail
    go_ret
    exact ⟨ret_bool (by simp [*]), Below.refl _ _⟩

theorem masked_any (m v n : Int) (w : World) : Calls Try.prog 138 #[.agg #[.int .u64 m, .int .u64 v], .int .u64 n] w fun e w' => e = .returned (.bool (bits .and .u64 n m == v)) ∧ Below w.heap.size w w' := by
  obtain ⟨x, hx⟩ : ∃ x, x = bits .and .u64 n m := ⟨_, rfl⟩
  have HX := Lib.hid hx
  rw [← hx]
  clear hx
  go_enter Try.func138, Try.ntmps138
  go_wp2_with fail
  go_ret
  exact ⟨ret_bool (by rw [HX.out]), (Below.refl _ _).alloc (Nat.le_refl _) _⟩

end Go.Proofs.Ytmnmaijifhojiaa
