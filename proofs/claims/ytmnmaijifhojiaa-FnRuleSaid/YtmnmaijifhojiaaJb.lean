/- Comparisons of the program: comparisonOf, maskFits, CmpRight, the seven, CmpHolds walked. -/
import Derived.Test.YtmnmaijifhojiaaJa
import Derived.Test.YtmnmaijifhojiaaIw
set_option maxRecDepth 100000
namespace Go.Proofs.Ytmnmaijifhojiaa
open Go.RowKit

/-- The comparison that one of the program's is. -/
def cmpI (x : Cq) : Value :=
  if x.o = 1 then .iface 142 (.int .u64 (bitsW ⟨x.vh, x.vl⟩))
  else if x.o = 2 then .iface 143 (.int .u64 (bitsW ⟨x.vh, x.vl⟩))
  else if x.o = 3 then .iface 144 (.int .u64 (bitsW ⟨x.vh, x.vl⟩))
  else if x.o = 4 then .iface 145 (.int .u64 (bitsW ⟨x.vh, x.vl⟩))
  else if x.o = 5 then .iface 146 (.int .u64 (bitsW ⟨x.vh, x.vl⟩))
  else if x.o = 6 then .iface 147 (.int .u64 (bitsW ⟨x.vh, x.vl⟩))
  else if x.o = 7 then .iface 149 (.agg #[.int .u64 (bitsW ⟨x.mh, x.ml⟩), .int .u64 (bitsW ⟨x.vh, x.vl⟩)])
  else .nilIface

set_option maxHeartbeats 1600000 in
theorem comparisonOf_any (a o mh ml vh vl : Int) (w : World) : Calls Try.prog 63 #[cqV ⟨a, o, mh, ml, vh, vl⟩] w fun e w' =>
    e = .returned (cmpI ⟨a, o, mh, ml, vh, vl⟩) ∧ Below w.heap.size w w' := by
  have q1 := fun W => bitsOf_any vh vl W
  have q2 := fun W => bitsOf_any mh ml W
  have hr : cmpI ⟨a, o, mh, ml, vh, vl⟩ = (if o = 1 then .iface 142 (.int .u64 (bitsW ⟨vh, vl⟩))
    else if o = 2 then .iface 143 (.int .u64 (bitsW ⟨vh, vl⟩))
    else if o = 3 then .iface 144 (.int .u64 (bitsW ⟨vh, vl⟩))
    else if o = 4 then .iface 145 (.int .u64 (bitsW ⟨vh, vl⟩))
    else if o = 5 then .iface 146 (.int .u64 (bitsW ⟨vh, vl⟩))
    else if o = 6 then .iface 147 (.int .u64 (bitsW ⟨vh, vl⟩))
    else if o = 7 then .iface 149 (.agg #[.int .u64 (bitsW ⟨mh, ml⟩), .int .u64 (bitsW ⟨vh, vl⟩)])
    else .nilIface) := rfl
  generalize cmpI ⟨a, o, mh, ml, vh, vl⟩ = r at hr ⊢
  generalize bitsW ⟨vh, vl⟩ = v at *
  generalize bitsW ⟨mh, ml⟩ = m at *
  have Q1 := Lib.hid q1
  have Q2 := Lib.hid q2
  clear q1 q2
  by_cases h1 : o = 1
  · subst h1
    obtain rfl : r = .iface 142 (.int .u64 v) := hr
    go_enter Try.func63, Try.ntmps63
    go_wp2_with fail
    refine (Q1.out _).mono ?_
    rintro e w1 ⟨rfl, hb1⟩
    have c1 := box_cell hb1 1
    simp only [List.getElem?_toArray, List.getElem?_cons_zero, List.getElem?_cons_succ] at c1
    have HB := Lib.hid (box_below hb1)
    clear hb1
    go_wp2_with fail
    go_ret
    exact ⟨rfl, HB.out⟩
  by_cases h2 : o = 2
  · subst h2
    obtain rfl : r = .iface 143 (.int .u64 v) := hr
    clear h1
    go_enter Try.func63, Try.ntmps63
    go_wp2_with fail
    refine (Q1.out _).mono ?_
    rintro e w1 ⟨rfl, hb1⟩
    have c1 := box_cell hb1 1
    simp only [List.getElem?_toArray, List.getElem?_cons_zero, List.getElem?_cons_succ] at c1
    have HB := Lib.hid (box_below hb1)
    clear hb1
    go_wp2_with fail
    go_ret
    exact ⟨rfl, HB.out⟩
  by_cases h3 : o = 3
  · subst h3
    obtain rfl : r = .iface 144 (.int .u64 v) := hr
    clear h1 h2
    go_enter Try.func63, Try.ntmps63
    go_wp2_with fail
    refine (Q1.out _).mono ?_
    rintro e w1 ⟨rfl, hb1⟩
    have c1 := box_cell hb1 1
    simp only [List.getElem?_toArray, List.getElem?_cons_zero, List.getElem?_cons_succ] at c1
    have HB := Lib.hid (box_below hb1)
    clear hb1
    go_wp2_with fail
    go_ret
    exact ⟨rfl, HB.out⟩
  by_cases h4 : o = 4
  · subst h4
    obtain rfl : r = .iface 145 (.int .u64 v) := hr
    clear h1 h2 h3
    go_enter Try.func63, Try.ntmps63
    go_wp2_with fail
    refine (Q1.out _).mono ?_
    rintro e w1 ⟨rfl, hb1⟩
    have c1 := box_cell hb1 1
    simp only [List.getElem?_toArray, List.getElem?_cons_zero, List.getElem?_cons_succ] at c1
    have HB := Lib.hid (box_below hb1)
    clear hb1
    go_wp2_with fail
    go_ret
    exact ⟨rfl, HB.out⟩
  by_cases h5 : o = 5
  · subst h5
    obtain rfl : r = .iface 146 (.int .u64 v) := hr
    clear h1 h2 h3 h4
    go_enter Try.func63, Try.ntmps63
    go_wp2_with fail
    refine (Q1.out _).mono ?_
    rintro e w1 ⟨rfl, hb1⟩
    have c1 := box_cell hb1 1
    simp only [List.getElem?_toArray, List.getElem?_cons_zero, List.getElem?_cons_succ] at c1
    have HB := Lib.hid (box_below hb1)
    clear hb1
    go_wp2_with fail
    go_ret
    exact ⟨rfl, HB.out⟩
  by_cases h6 : o = 6
  · subst h6
    obtain rfl : r = .iface 147 (.int .u64 v) := hr
    clear h1 h2 h3 h4 h5
    go_enter Try.func63, Try.ntmps63
    go_wp2_with fail
    refine (Q1.out _).mono ?_
    rintro e w1 ⟨rfl, hb1⟩
    have c1 := box_cell hb1 1
    simp only [List.getElem?_toArray, List.getElem?_cons_zero, List.getElem?_cons_succ] at c1
    have HB := Lib.hid (box_below hb1)
    clear hb1
    go_wp2_with fail
    go_ret
    exact ⟨rfl, HB.out⟩
  by_cases h7 : o = 7
  · subst h7
    obtain rfl : r = .iface 149 (.agg #[.int .u64 m, .int .u64 v]) := hr
    clear h1 h2 h3 h4 h5 h6
    go_enter Try.func63, Try.ntmps63
    go_wp2_with fail
    refine (Q1.out _).mono ?_
    rintro e w1 ⟨rfl, hb1⟩
    have c1 := box_cell hb1 1
    have c2 := box_cell hb1 2
    have c3 := box_cell hb1 3
    simp only [List.getElem?_toArray, List.getElem?_cons_zero, List.getElem?_cons_succ] at c1 c2 c3
    have HB1 := Lib.hid hb1
    clear hb1
    go_wp2_with fail
    refine (Q2.out _).mono ?_
    rintro e w2 ⟨rfl, hb2⟩
    have HB := Lib.hid (box_below (HB1.out.trans (hb2.mono HB1.out.size)))
    clear hb2 c1 c2 c3
    go_wp2_with fail
    go_ret
    exact ⟨rfl, HB.out⟩
  · obtain rfl : r = .nilIface := by rw [hr]; simp [h1, h2, h3, h4, h5, h6, h7]
    have e1 : (o == 1) = false := by simpa using h1
    have e2 : (o == 2) = false := by simpa using h2
    have e3 : (o == 3) = false := by simpa using h3
    have e4 : (o == 4) = false := by simpa using h4
    have e5 : (o == 5) = false := by simpa using h5
    have e6 : (o == 6) = false := by simpa using h6
    have e7 : (o == 7) = false := by simpa using h7
    clear h1 h2 h3 h4 h5 h6 h7 hr
    go_enter Try.func63, Try.ntmps63
    go_wp2_with fail
    refine (Q1.out _).mono ?_
    rintro e w1 ⟨rfl, hb1⟩
    have c1 := box_cell hb1 1
    simp only [List.getElem?_toArray, List.getElem?_cons_zero, List.getElem?_cons_succ] at c1
    have HB := Lib.hid (box_below hb1)
    clear hb1
    go_wp2_with fail
    go_ret
    exact ⟨rfl, HB.out⟩

end Go.Proofs.Ytmnmaijifhojiaa
