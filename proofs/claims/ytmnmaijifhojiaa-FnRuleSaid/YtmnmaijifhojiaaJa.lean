/- Comparisons of the model: CmpRight, l06Holds, CmpHolds walked. -/
import Derived.Test.YtmnmaijifhojiaaWd
import Derived.Deep.RegionHeld3
import Derived.Deep.DrawnRows
set_option maxRecDepth 100000
namespace Go.Proofs.Ytmnmaijifhojiaa
open Go.RowKit
attribute [local go_sem ↓] Go.wp_at_zero Go.wp_at_succ

/-- A comparison. -/
structure Cq where
  a : Int
  o : Int
  mh : Int
  ml : Int
  vh : Int
  vl : Int
theorem Cq.ext' {x y : Cq} (h0 : x.a = y.a) (h1 : x.o = y.o) (h2 : x.mh = y.mh) (h3 : x.ml = y.ml) (h4 : x.vh = y.vh) (h5 : x.vl = y.vl) : x = y := by cases x; cases y; simp_all
instance : DecidableEq Cq := fun x y => decidable_of_iff (x.a = y.a ∧ x.o = y.o ∧ x.mh = y.mh ∧ x.ml = y.ml ∧ x.vh = y.vh ∧ x.vl = y.vl) ⟨fun h => Cq.ext' h.1 h.2.1 h.2.2.1 h.2.2.2.1 h.2.2.2.2.1 h.2.2.2.2.2, fun h => by rw [h]; exact ⟨rfl, rfl, rfl, rfl, rfl, rfl⟩⟩
def Cq.wf (x : Cq) : Prop := In64 x.a ∧ In64 x.o ∧ In64 x.mh ∧ In64 x.ml ∧ In64 x.vh ∧ In64 x.vl
abbrev cqV (x : Cq) : Value := .agg #[.int .i64 x.a, .int .i64 x.o, .int .i64 x.mh, .int .i64 x.ml, .int .i64 x.vh, .int .i64 x.vl]
def cqNone (x : Cq) : Bool := x.mh == 0 && x.ml == 0
def cqRight (x : Cq) : Bool := isB x.a 0 5 && isB x.o 1 7 && wdRight ⟨x.mh, x.ml⟩ && wdRight ⟨x.vh, x.vl⟩ && (x.o == 7 || cqNone x)
/-- Does it hold, of right ones? -/
def cqHolds0 (x : Cq) (u : Wd) : Bool :=
  if x.o = 1 then u.h == x.vh && u.l == x.vl
  else if x.o = 2 then !(u.h == x.vh && u.l == x.vl)
  else if x.o = 3 then wdLess0 u ⟨x.vh, x.vl⟩
  else if x.o = 4 then !wdLess0 ⟨x.vh, x.vl⟩ u
  else if x.o = 5 then wdLess0 ⟨x.vh, x.vl⟩ u
  else if x.o = 6 then !wdLess0 u ⟨x.vh, x.vl⟩
  else (wdAnd u ⟨x.mh, x.ml⟩).h == x.vh && (wdAnd u ⟨x.mh, x.ml⟩).l == x.vl
def cqHolds (x : Cq) (u : Wd) : Bool := cqRight x && wdRight u && cqHolds0 x u

set_option maxHeartbeats 1600000 in
theorem specCmpRight_any (a o mh ml vh vl : Int) (w : World) : Calls Try.prog 34 #[cqV ⟨a, o, mh, ml, vh, vl⟩] w fun e w' =>
    e = .returned (.bool (cqRight ⟨a, o, mh, ml, vh, vl⟩)) ∧ Below w.heap.size w w' := by
  have q1 := fun W => specWordRight_any mh ml W
  have q2 := fun W => specWordRight_any vh vl W
  have hr : cqRight ⟨a, o, mh, ml, vh, vl⟩ = (isB a 0 5 && isB o 1 7 && wdRight ⟨mh, ml⟩ && wdRight ⟨vh, vl⟩ && (o == 7 || (mh == 0 && ml == 0))) := rfl
  cases h0 : isB a 0 5
  · have HR := Lib.hid (show cqRight ⟨a, o, mh, ml, vh, vl⟩ = false by rw [hr, h0]; simp)
    clear hr q1 q2
    go_enter Try.func34, Try.ntmps34
    go_wp2_with (go_at_call 78; refine (l02Is_any _ _ _ _).mono ?_; rintro e w' ⟨rfl, rfl⟩)
    go_ret
    exact ⟨ret_bool HR.out.symm, (Below.refl _ _).alloc (Nat.le_refl _) _⟩
  cases h1 : isB o 1 7
  · have HR := Lib.hid (show cqRight ⟨a, o, mh, ml, vh, vl⟩ = false by rw [hr, h1]; simp)
    clear hr q1 q2
    go_enter Try.func34, Try.ntmps34
    go_wp2_with (go_at_call 78; refine (l02Is_any _ _ _ _).mono ?_; rintro e w' ⟨rfl, rfl⟩)
    go_ret
    exact ⟨ret_bool HR.out.symm, (Below.refl _ _).alloc (Nat.le_refl _) _⟩
  cases h2 : wdRight ⟨mh, ml⟩ <;> rw [h2] at q1
  · have HR := Lib.hid (show cqRight ⟨a, o, mh, ml, vh, vl⟩ = false by rw [hr, h2]; simp)
    have Q1 := Lib.hid q1
    clear hr q1 q2 h2
    go_enter Try.func34, Try.ntmps34
    go_wp2_with (go_at_call 78; refine (l02Is_any _ _ _ _).mono ?_; rintro e w' ⟨rfl, rfl⟩)
    refine (Q1.out _).mono ?_
    rintro e w1 ⟨rfl, hb1⟩
    have HB := Lib.hid (box_below hb1)
    clear hb1
    go_wp2_with fail
    go_ret
    exact ⟨ret_bool HR.out.symm, HB.out⟩
  cases h3 : wdRight ⟨vh, vl⟩ <;> rw [h3] at q2
  · have HR := Lib.hid (show cqRight ⟨a, o, mh, ml, vh, vl⟩ = false by rw [hr, h3]; simp)
    have Q1 := Lib.hid q1
    have Q2 := Lib.hid q2
    clear hr q1 q2 h2 h3
    go_enter Try.func34, Try.ntmps34
    go_wp2_with (go_at_call 78; refine (l02Is_any _ _ _ _).mono ?_; rintro e w' ⟨rfl, rfl⟩)
    refine (Q1.out _).mono ?_
    rintro e w1 ⟨rfl, hb1⟩
    have c4 := box_cell hb1 4
    have c5 := box_cell hb1 5
    simp only [List.getElem?_toArray, List.getElem?_cons_zero, List.getElem?_cons_succ] at c4 c5
    have HB1 := Lib.hid hb1
    clear hb1
    go_wp2_with fail
    refine (Q2.out _).mono ?_
    rintro e w2 ⟨rfl, hb2⟩
    have HB := Lib.hid (box_below (HB1.out.trans (hb2.mono HB1.out.size)))
    clear hb2 c4 c5
    go_wp2_with fail
    go_ret
    exact ⟨ret_bool HR.out.symm, HB.out⟩
  have hr' : cqRight ⟨a, o, mh, ml, vh, vl⟩ = (o == 7 || (mh == 0 && ml == 0)) := by rw [hr, h0, h1, h2, h3]; simp
  clear hr
  have Q1 := Lib.hid q1
  have Q2 := Lib.hid q2
  clear q1 q2 h2 h3
  by_cases h4 : o = 7
  · subst h4
    have HR := Lib.hid (show cqRight ⟨a, 7, mh, ml, vh, vl⟩ = true by rw [hr']; rfl)
    clear hr'
    go_enter Try.func34, Try.ntmps34
    go_wp2_with (go_at_call 78; refine (l02Is_any _ _ _ _).mono ?_; rintro e w' ⟨rfl, rfl⟩)
    refine (Q1.out _).mono ?_
    rintro e w1 ⟨rfl, hb1⟩
    have c4 := box_cell hb1 4
    have c5 := box_cell hb1 5
    simp only [List.getElem?_toArray, List.getElem?_cons_zero, List.getElem?_cons_succ] at c4 c5
    have HB1 := Lib.hid hb1
    clear hb1
    go_wp2_with fail
    refine (Q2.out _).mono ?_
    rintro e w2 ⟨rfl, hb2⟩
    have hb3 := HB1.out.trans (hb2.mono HB1.out.size)
    have HB := Lib.hid (box_below hb3)
    have c1 := box_cell hb3 1
    simp only [List.getElem?_toArray, List.getElem?_cons_zero, List.getElem?_cons_succ] at c1
    clear hb2 c4 c5 hb3
    go_wp2_with fail
    go_ret
    exact ⟨ret_bool HR.out.symm, HB.out⟩
  · have h4' : (o == 7) = false := by simpa using h4
    have HR := Lib.hid (show cqRight ⟨a, o, mh, ml, vh, vl⟩ = (mh == 0 && ml == 0) by rw [hr', h4']; rfl)
    clear hr' h4
    go_enter Try.func34, Try.ntmps34
    go_wp2_with (go_at_call 78; refine (l02Is_any _ _ _ _).mono ?_; rintro e w' ⟨rfl, rfl⟩)
    refine (Q1.out _).mono ?_
    rintro e w1 ⟨rfl, hb1⟩
    have c4 := box_cell hb1 4
    have c5 := box_cell hb1 5
    simp only [List.getElem?_toArray, List.getElem?_cons_zero, List.getElem?_cons_succ] at c4 c5
    have HB1 := Lib.hid hb1
    clear hb1
    go_wp2_with fail
    refine (Q2.out _).mono ?_
    rintro e w2 ⟨rfl, hb2⟩
    have hb3 := HB1.out.trans (hb2.mono HB1.out.size)
    have HB := Lib.hid (box_below hb3)
    have c1 := box_cell hb3 1
    have c2 := box_cell hb3 2
    have c3 := box_cell hb3 3
    simp only [List.getElem?_toArray, List.getElem?_cons_zero, List.getElem?_cons_succ] at c1 c2 c3
    clear hb2 c4 c5 hb3
    go_wp2_with fail
    all_goals
      go_ret
      exact ⟨ret_bool (HR.out.trans (by simp [*])).symm, HB.out⟩

set_option maxHeartbeats 1600000 in
theorem l06Holds_any (a o mh ml vh vl h l : Int) (w : World) (ho : 1 ≤ o ∧ o ≤ 7) : Calls Try.prog 73 #[cqV ⟨a, o, mh, ml, vh, vl⟩, .agg #[.int .i64 h, .int .i64 l]] w fun e w' =>
    e = .returned (.bool (cqHolds0 ⟨a, o, mh, ml, vh, vl⟩ ⟨h, l⟩)) ∧ Below w.heap.size w w' := by
  have q1 := fun W => l03Less_any h l vh vl W
  have q2 := fun W => l03Less_any vh vl h l W
  have q3 := fun W => specWordAnd_any h l mh ml W
  have hr : cqHolds0 ⟨a, o, mh, ml, vh, vl⟩ ⟨h, l⟩ = (if o = 1 then h == vh && l == vl
    else if o = 2 then !(h == vh && l == vl)
    else if o = 3 then wdLess0 ⟨h, l⟩ ⟨vh, vl⟩
    else if o = 4 then !wdLess0 ⟨vh, vl⟩ ⟨h, l⟩
    else if o = 5 then wdLess0 ⟨vh, vl⟩ ⟨h, l⟩
    else if o = 6 then !wdLess0 ⟨h, l⟩ ⟨vh, vl⟩
    else (wdAnd ⟨h, l⟩ ⟨mh, ml⟩).h == vh && (wdAnd ⟨h, l⟩ ⟨mh, ml⟩).l == vl) := rfl
  generalize cqHolds0 ⟨a, o, mh, ml, vh, vl⟩ ⟨h, l⟩ = r at hr ⊢
  generalize wdLess0 ⟨h, l⟩ ⟨vh, vl⟩ = r1 at *
  generalize wdLess0 ⟨vh, vl⟩ ⟨h, l⟩ = r2 at *
  generalize wdAnd ⟨h, l⟩ ⟨mh, ml⟩ = u at *
  obtain ⟨uh, ul⟩ := u
  simp only at hr q3
  have Q1 := Lib.hid q1
  have Q2 := Lib.hid q2
  have Q3 := Lib.hid q3
  clear q1 q2 q3
  have ho' : o = 1 ∨ o = 2 ∨ o = 3 ∨ o = 4 ∨ o = 5 ∨ o = 6 ∨ o = 7 := by omega
  clear ho
  have hB0 : Below w.heap.size w ((w.alloc (.cells #[.int .i64 a, .int .i64 o, .int .i64 mh, .int .i64 ml, .int .i64 vh, .int .i64 vl] 26)).alloc (.cells #[.int .i64 h, .int .i64 l] 24)) := ((Below.refl _ _).alloc (Nat.le_refl _) _).alloc (by simp) _
  have HB0 := Lib.hid hB0
  clear hB0
  rcases ho' with rfl | rfl | rfl | rfl | rfl | rfl | rfl
  · have HR := Lib.hid hr
    clear hr
    go_enter Try.func73, Try.ntmps73
    go_wp2_with fail
    all_goals
      go_ret
      exact ⟨ret_bool (HR.out.trans (by simp [*])).symm, ((Below.refl _ _).alloc (Nat.le_refl _) _).alloc (by simp) _⟩
  · have HR := Lib.hid hr
    clear hr
    go_enter Try.func73, Try.ntmps73
    go_wp2_with fail
    all_goals
      go_ret
      exact ⟨ret_bool (HR.out.trans (by simp [*])).symm, ((Below.refl _ _).alloc (Nat.le_refl _) _).alloc (by simp) _⟩
  · have HR := Lib.hid (show r = r1 from hr)
    clear hr
    go_enter Try.func73, Try.ntmps73
    go_wp2_with fail
    refine (Q1.out _).mono ?_
    rintro e w1 ⟨rfl, hb1⟩
    have HB := Lib.hid (HB0.out.trans (hb1.mono HB0.out.size))
    clear hb1
    go_wp2_with fail
    go_ret
    exact ⟨ret_bool HR.out.symm, HB.out⟩
  · have HR := Lib.hid (show r = !r2 from hr)
    clear hr
    go_enter Try.func73, Try.ntmps73
    go_wp2_with fail
    refine (Q2.out _).mono ?_
    rintro e w1 ⟨rfl, hb1⟩
    have HB := Lib.hid (HB0.out.trans (hb1.mono HB0.out.size))
    clear hb1
    go_wp2_with fail
    go_ret
    exact ⟨ret_bool HR.out.symm, HB.out⟩
  · have HR := Lib.hid (show r = r2 from hr)
    clear hr
    go_enter Try.func73, Try.ntmps73
    go_wp2_with fail
    refine (Q2.out _).mono ?_
    rintro e w1 ⟨rfl, hb1⟩
    have HB := Lib.hid (HB0.out.trans (hb1.mono HB0.out.size))
    clear hb1
    go_wp2_with fail
    go_ret
    exact ⟨ret_bool HR.out.symm, HB.out⟩
  · have HR := Lib.hid (show r = !r1 from hr)
    clear hr
    go_enter Try.func73, Try.ntmps73
    go_wp2_with fail
    refine (Q1.out _).mono ?_
    rintro e w1 ⟨rfl, hb1⟩
    have HB := Lib.hid (HB0.out.trans (hb1.mono HB0.out.size))
    clear hb1
    go_wp2_with fail
    go_ret
    exact ⟨ret_bool HR.out.symm, HB.out⟩
  · have HR := Lib.hid (show r = (uh == vh && ul == vl) from hr)
    clear hr
    by_cases e1 : vh = uh
    · by_cases e2 : vl = ul
      · subst e1 e2
        have HZ := Lib.hid (show r = true from HR.out.trans (by simp))
        clear HR
        have hkeep : ∀ W : World, Below ((w.alloc (.cells #[.int .i64 a, .int .i64 7, .int .i64 mh, .int .i64 ml, .int .i64 vh, .int .i64 vl] 26)).alloc (.cells #[.int .i64 h, .int .i64 l] 24)).heap.size ((w.alloc (.cells #[.int .i64 a, .int .i64 7, .int .i64 mh, .int .i64 ml, .int .i64 vh, .int .i64 vl] 26)).alloc (.cells #[.int .i64 h, .int .i64 l] 24)) W → (W.cell? ⟨w.heap.size, 2, none⟩ = some (.int .i64 mh) ∧ W.cell? ⟨w.heap.size, 3, none⟩ = some (.int .i64 ml) ∧ W.cell? ⟨w.heap.size, 4, none⟩ = some (.int .i64 vh) ∧ W.cell? ⟨w.heap.size, 5, none⟩ = some (.int .i64 vl) ∧ W.cell? ⟨w.heap.size + 1, 0, none⟩ = some (.int .i64 h) ∧ W.cell? ⟨w.heap.size + 1, 1, none⟩ = some (.int .i64 l)) := fun W hb => ⟨(box2 hb).1 2, (box2 hb).1 3, (box2 hb).1 4, (box2 hb).1 5, (box2 hb).2.1 0, (box2 hb).2.1 1⟩
        have HK := Lib.hid hkeep
        have hbw0 : Below ((w.alloc (.cells #[.int .i64 a, .int .i64 7, .int .i64 mh, .int .i64 ml, .int .i64 vh, .int .i64 vl] 26)).alloc (.cells #[.int .i64 h, .int .i64 l] 24)).heap.size ((w.alloc (.cells #[.int .i64 a, .int .i64 7, .int .i64 mh, .int .i64 ml, .int .i64 vh, .int .i64 vl] 26)).alloc (.cells #[.int .i64 h, .int .i64 l] 24)) ((w.alloc (.cells #[.int .i64 a, .int .i64 7, .int .i64 mh, .int .i64 ml, .int .i64 vh, .int .i64 vl] 26)).alloc (.cells #[.int .i64 h, .int .i64 l] 24)).drew := (Below.refl _ _).drew
        clear hkeep
        go_enter Try.func73, Try.ntmps73
        go_wp2_with fail
        go_region_held3 (fun w' => w'.cell? ⟨w.heap.size, 2, none⟩ = some (.int .i64 mh) ∧ w'.cell? ⟨w.heap.size, 3, none⟩ = some (.int .i64 ml) ∧ w'.cell? ⟨w.heap.size, 4, none⟩ = some (.int .i64 vh) ∧ w'.cell? ⟨w.heap.size, 5, none⟩ = some (.int .i64 vl) ∧ w'.cell? ⟨w.heap.size + 1, 0, none⟩ = some (.int .i64 h) ∧ w'.cell? ⟨w.heap.size + 1, 1, none⟩ = some (.int .i64 l))
          (first | go_keep | exact HK.out _ hbw1 | exact HK.out _ hbw0)
          (first
            | (go_at_call 97; (with_reducible refine (Q3.out _).mono ?_); rintro e w1 ⟨rfl, hb1⟩; have hbw1 := hbw0.trans (hb1.mono hbw0.size)))
        all_goals
          have HE := Lib.hid (box2 hbw1).2.2
          clear hbw0 hbw1 hb1
          go_wp2_with fail
          go_ret
          exact ⟨ret_bool HZ.out.symm, HE.out⟩
      · have e2' : ¬ ul = vl := fun h => e2 h.symm
        clear e2
        have HZ := Lib.hid (show r = false from HR.out.trans (by simp [e1, e2']))
        clear HR
        subst e1
        have hkeep : ∀ W : World, Below ((w.alloc (.cells #[.int .i64 a, .int .i64 7, .int .i64 mh, .int .i64 ml, .int .i64 vh, .int .i64 vl] 26)).alloc (.cells #[.int .i64 h, .int .i64 l] 24)).heap.size ((w.alloc (.cells #[.int .i64 a, .int .i64 7, .int .i64 mh, .int .i64 ml, .int .i64 vh, .int .i64 vl] 26)).alloc (.cells #[.int .i64 h, .int .i64 l] 24)) W → (W.cell? ⟨w.heap.size, 2, none⟩ = some (.int .i64 mh) ∧ W.cell? ⟨w.heap.size, 3, none⟩ = some (.int .i64 ml) ∧ W.cell? ⟨w.heap.size, 4, none⟩ = some (.int .i64 vh) ∧ W.cell? ⟨w.heap.size, 5, none⟩ = some (.int .i64 vl) ∧ W.cell? ⟨w.heap.size + 1, 0, none⟩ = some (.int .i64 h) ∧ W.cell? ⟨w.heap.size + 1, 1, none⟩ = some (.int .i64 l)) := fun W hb => ⟨(box2 hb).1 2, (box2 hb).1 3, (box2 hb).1 4, (box2 hb).1 5, (box2 hb).2.1 0, (box2 hb).2.1 1⟩
        have HK := Lib.hid hkeep
        have hbw0 : Below ((w.alloc (.cells #[.int .i64 a, .int .i64 7, .int .i64 mh, .int .i64 ml, .int .i64 vh, .int .i64 vl] 26)).alloc (.cells #[.int .i64 h, .int .i64 l] 24)).heap.size ((w.alloc (.cells #[.int .i64 a, .int .i64 7, .int .i64 mh, .int .i64 ml, .int .i64 vh, .int .i64 vl] 26)).alloc (.cells #[.int .i64 h, .int .i64 l] 24)) ((w.alloc (.cells #[.int .i64 a, .int .i64 7, .int .i64 mh, .int .i64 ml, .int .i64 vh, .int .i64 vl] 26)).alloc (.cells #[.int .i64 h, .int .i64 l] 24)).drew := (Below.refl _ _).drew
        clear hkeep
        go_enter Try.func73, Try.ntmps73
        go_wp2_with fail
        go_region_held3 (fun w' => w'.cell? ⟨w.heap.size, 2, none⟩ = some (.int .i64 mh) ∧ w'.cell? ⟨w.heap.size, 3, none⟩ = some (.int .i64 ml) ∧ w'.cell? ⟨w.heap.size, 4, none⟩ = some (.int .i64 vh) ∧ w'.cell? ⟨w.heap.size, 5, none⟩ = some (.int .i64 vl) ∧ w'.cell? ⟨w.heap.size + 1, 0, none⟩ = some (.int .i64 h) ∧ w'.cell? ⟨w.heap.size + 1, 1, none⟩ = some (.int .i64 l))
          (first | go_keep | exact HK.out _ hbw1 | exact HK.out _ hbw0)
          (first
            | (go_at_call 97; (with_reducible refine (Q3.out _).mono ?_); rintro e w1 ⟨rfl, hb1⟩; have hbw1 := hbw0.trans (hb1.mono hbw0.size)))
        all_goals
          have HE := Lib.hid (box2 hbw1).2.2
          clear hbw0 hbw1 hb1
          go_wp2_with fail
          go_ret
          exact ⟨ret_bool HZ.out.symm, HE.out⟩
    · have e1' : ¬ uh = vh := fun h => e1 h.symm
      clear e1
      have HZ := Lib.hid (show r = false from HR.out.trans (by simp [e1']))
      clear HR
      have hkeep : ∀ W : World, Below ((w.alloc (.cells #[.int .i64 a, .int .i64 7, .int .i64 mh, .int .i64 ml, .int .i64 vh, .int .i64 vl] 26)).alloc (.cells #[.int .i64 h, .int .i64 l] 24)).heap.size ((w.alloc (.cells #[.int .i64 a, .int .i64 7, .int .i64 mh, .int .i64 ml, .int .i64 vh, .int .i64 vl] 26)).alloc (.cells #[.int .i64 h, .int .i64 l] 24)) W → (W.cell? ⟨w.heap.size, 2, none⟩ = some (.int .i64 mh) ∧ W.cell? ⟨w.heap.size, 3, none⟩ = some (.int .i64 ml) ∧ W.cell? ⟨w.heap.size, 4, none⟩ = some (.int .i64 vh) ∧ W.cell? ⟨w.heap.size, 5, none⟩ = some (.int .i64 vl) ∧ W.cell? ⟨w.heap.size + 1, 0, none⟩ = some (.int .i64 h) ∧ W.cell? ⟨w.heap.size + 1, 1, none⟩ = some (.int .i64 l)) := fun W hb => ⟨(box2 hb).1 2, (box2 hb).1 3, (box2 hb).1 4, (box2 hb).1 5, (box2 hb).2.1 0, (box2 hb).2.1 1⟩
      have HK := Lib.hid hkeep
      have hbw0 : Below ((w.alloc (.cells #[.int .i64 a, .int .i64 7, .int .i64 mh, .int .i64 ml, .int .i64 vh, .int .i64 vl] 26)).alloc (.cells #[.int .i64 h, .int .i64 l] 24)).heap.size ((w.alloc (.cells #[.int .i64 a, .int .i64 7, .int .i64 mh, .int .i64 ml, .int .i64 vh, .int .i64 vl] 26)).alloc (.cells #[.int .i64 h, .int .i64 l] 24)) ((w.alloc (.cells #[.int .i64 a, .int .i64 7, .int .i64 mh, .int .i64 ml, .int .i64 vh, .int .i64 vl] 26)).alloc (.cells #[.int .i64 h, .int .i64 l] 24)).drew := (Below.refl _ _).drew
      clear hkeep
      go_enter Try.func73, Try.ntmps73
      go_wp2_with fail
      go_region_held3 (fun w' => w'.cell? ⟨w.heap.size, 2, none⟩ = some (.int .i64 mh) ∧ w'.cell? ⟨w.heap.size, 3, none⟩ = some (.int .i64 ml) ∧ w'.cell? ⟨w.heap.size, 4, none⟩ = some (.int .i64 vh) ∧ w'.cell? ⟨w.heap.size, 5, none⟩ = some (.int .i64 vl) ∧ w'.cell? ⟨w.heap.size + 1, 0, none⟩ = some (.int .i64 h) ∧ w'.cell? ⟨w.heap.size + 1, 1, none⟩ = some (.int .i64 l))
        (first | go_keep | exact HK.out _ hbw1 | exact HK.out _ hbw0)
        (first
          | (go_at_call 97; (with_reducible refine (Q3.out _).mono ?_); rintro e w1 ⟨rfl, hb1⟩; have hbw1 := hbw0.trans (hb1.mono hbw0.size)))
      all_goals
        have HE := Lib.hid (box2 hbw1).2.2
        clear hbw0 hbw1 hb1
        go_wp2_with fail
        go_ret
        exact ⟨ret_bool HZ.out.symm, HE.out⟩

theorem specCmpHolds_any (a o mh ml vh vl h l : Int) (w : World) : Calls Try.prog 22 #[cqV ⟨a, o, mh, ml, vh, vl⟩, .agg #[.int .i64 h, .int .i64 l]] w fun e w' =>
    e = .returned (.bool (cqHolds ⟨a, o, mh, ml, vh, vl⟩ ⟨h, l⟩)) ∧ Below w.heap.size w w' := by
  have q1 := fun W => specCmpRight_any a o mh ml vh vl W
  have q2 := fun W => specWordRight_any h l W
  have hr : cqHolds ⟨a, o, mh, ml, vh, vl⟩ ⟨h, l⟩ = (cqRight ⟨a, o, mh, ml, vh, vl⟩ && wdRight ⟨h, l⟩ && cqHolds0 ⟨a, o, mh, ml, vh, vl⟩ ⟨h, l⟩) := rfl
  cases h1 : cqRight ⟨a, o, mh, ml, vh, vl⟩ <;> rw [h1] at q1
  · have HR := Lib.hid (show cqHolds ⟨a, o, mh, ml, vh, vl⟩ ⟨h, l⟩ = false by rw [hr, h1]; rfl)
    have Q1 := Lib.hid q1
    clear hr q1 q2 h1
    go_enter Try.func22, Try.ntmps22
    go_wp2_with fail
    refine (Q1.out _).mono ?_
    rintro e w1 ⟨rfl, hb1⟩
    have HB := Lib.hid (box2 hb1).2.2
    clear hb1
    go_wp2_with fail
    go_ret
    exact ⟨ret_bool HR.out.symm, HB.out⟩
  have ho : 1 ≤ o ∧ o ≤ 7 := by
    unfold cqRight isB at h1
    simp at h1
    omega
  have q3 := fun W => l06Holds_any a o mh ml vh vl h l W ho
  have Q1 := Lib.hid q1
  cases h2 : wdRight ⟨h, l⟩ <;> rw [h2] at q2
  · have HR := Lib.hid (show cqHolds ⟨a, o, mh, ml, vh, vl⟩ ⟨h, l⟩ = false by rw [hr, h1, h2]; rfl)
    have Q2 := Lib.hid q2
    clear hr q1 q2 q3 h1 h2 ho
    go_enter Try.func22, Try.ntmps22
    go_wp2_with fail
    refine (Q1.out _).mono ?_
    rintro e w1 ⟨rfl, hb1⟩
    have hb2 := box2 hb1
    have d0 := hb2.2.1 0
    have d1 := hb2.2.1 1
    simp only [List.getElem?_toArray, List.getElem?_cons_zero, List.getElem?_cons_succ] at d0 d1
    have HB := Lib.hid hb1
    clear hb1 hb2
    go_wp2_with fail
    refine (Q2.out _).mono ?_
    rintro e w2 ⟨rfl, hb3⟩
    have HC := Lib.hid (box2 (HB.out.trans (hb3.mono HB.out.size))).2.2
    clear hb3 d0 d1
    go_wp2_with fail
    go_ret
    exact ⟨ret_bool HR.out.symm, HC.out⟩
  have HR := Lib.hid (show cqHolds ⟨a, o, mh, ml, vh, vl⟩ ⟨h, l⟩ = cqHolds0 ⟨a, o, mh, ml, vh, vl⟩ ⟨h, l⟩ by rw [hr, h1, h2]; rfl)
  have Q2 := Lib.hid q2
  have Q3 := Lib.hid q3
  clear hr q1 q2 q3 h1 h2 ho
  go_enter Try.func22, Try.ntmps22
  go_wp2_with fail
  refine (Q1.out _).mono ?_
  rintro e w1 ⟨rfl, hb1⟩
  have hb2 := box2 hb1
  have d0 := hb2.2.1 0
  have d1 := hb2.2.1 1
  simp only [List.getElem?_toArray, List.getElem?_cons_zero, List.getElem?_cons_succ] at d0 d1
  have HB := Lib.hid hb1
  clear hb1 hb2
  go_wp2_with fail
  refine (Q2.out _).mono ?_
  rintro e w2 ⟨rfl, hb3⟩
  have HC := Lib.hid (HB.out.trans (hb3.mono HB.out.size))
  clear hb3 d0 d1
  have hb2 := box2 HC.out
  have c0 := hb2.1 0
  have c1 := hb2.1 1
  have c2 := hb2.1 2
  have c3 := hb2.1 3
  have c4 := hb2.1 4
  have c5 := hb2.1 5
  have d0 := hb2.2.1 0
  have d1 := hb2.2.1 1
  simp only [List.getElem?_toArray, List.getElem?_cons_zero, List.getElem?_cons_succ] at c0 c1 c2 c3 c4 c5 d0 d1
  clear hb2
  go_wp2_with fail
  refine (Q3.out _).mono ?_
  rintro e w3 ⟨rfl, hb4⟩
  have HE := Lib.hid (box2 (HC.out.trans (hb4.mono HC.out.size))).2.2
  clear hb4 c0 c1 c2 c3 c4 c5 d0 d1
  go_wp2_with fail
  go_ret
  exact ⟨ret_bool HR.out.symm, HE.out⟩

end Go.Proofs.Ytmnmaijifhojiaa
