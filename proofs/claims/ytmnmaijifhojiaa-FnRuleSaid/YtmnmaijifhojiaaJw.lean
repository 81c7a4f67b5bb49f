/- PolicyAdd of the model walked. -/
import Derived.Test.YtmnmaijifhojiaaJv
import Derived.Test.YtmnmaijifhojiaaJr
set_option maxRecDepth 100000
set_option linter.unusedVariables false
set_option linter.unusedSimpArgs false
namespace Go.Proofs.Ytmnmaijifhojiaa
open Go.RowKit Go.ChangeShapes Go.WideShapes
attribute [local go_sem ↓] Go.wp_at_zero Go.wp_at_succ

def pol0 : Pol := ⟨0, 0, 0, []⟩
/-- A policy with one rule more, and the code. -/
def polAdd (p : Pol) (r : Rl) : Pol × Int :=
  if !(polRight p && rlRight r) then (pol0, 1) else if r.ac = p.df then (pol0, 10) else if hasR p.rs r then (p, 0) else if 24 ≤ p.rs.length then (pol0, 9) else (⟨p.ar, p.df, p.bd, p.rs ++ [r]⟩, 0)
theorem OwnRv.setOther {base : Nat} {w : World} {v : Value} {l : List Rv} (h : OwnRv base w v l) {a : Addr} (hn : ∀ g, v.ownBlock = some g → g ≠ a.block) (hn2 : ∀ x ∈ l, ∀ g, x.v.ownBlock = some g → g ≠ a.block) (u : Value) : OwnRv base (w.setCell a u) v l :=
  ⟨h.1.keep fun g hg => Below.heap_setCell w a u g (hn g hg), h.2.1.keep fun x hx g hg => Below.heap_setCell w a u g (hn2 x hx g hg), h.2.2⟩
/-- A policy out: its policy, in memory of its own, and a code. -/
def PolEnd (base : Nat) (w : World) (pc : Pol × Int) (e : Ending) (w' : World) : Prop :=
  ∃ u l', e = .returned (.agg #[.int .i64 pc.1.ar, .int .i64 pc.1.df, .int .i64 pc.1.bd, u, .int .i64 pc.2]) ∧ rls l' = pc.1.rs ∧ OwnRv base w' u l' ∧ Below w.heap.size w w'

set_option maxHeartbeats 12800000 in
theorem specPolicyAdd_any (ar df bd : Int) (l : List Rv) (nr ac : Int) (cs : List Cq) (v u : Value) (w : World) (hv : RvAt w w.heap.size v l) (hu : CqAt w w.heap.size u cs) :
    Calls Try.prog 24 #[polV ar df bd v, .agg #[.int .i64 nr, .int .i64 ac, u]] w (PolEnd w.heap.size w (polAdd ⟨ar, df, bd, rls l⟩ ⟨nr, ac, cs⟩)) := by
  have q1 := fun W (h : Below w.heap.size w W) => specPolicyRight_any ar df bd l _ W (RvAt.up (RvAt.below hv h) h.size)
  have q2 := fun W (h : Below w.heap.size w W) => specRuleRight_any nr ac cs _ W (LAt.up (LAt.below hu h) h.size)
  have q3 := fun W (h : Below w.heap.size w W) => l06At_any _ _ l nr ac cs W (RvAt.up (RvAt.below hv h) h.size) (LAt.up (LAt.below hu h) h.size)
  obtain ⟨a, cap, rfl, hlc, hcm⟩ := hv.len
  obtain ⟨ra, rcap, rfl, hlc', hcm'⟩ := hu.len
  unfold maxLen at hcm hcm'
  have hll : (rls l).length = l.length := by simp [rls]
  have hd : polAdd ⟨ar, df, bd, rls l⟩ ⟨nr, ac, cs⟩ = (if !(polRight ⟨ar, df, bd, rls l⟩ && rlRight ⟨nr, ac, cs⟩) then (pol0, 1) else if ac = df then (pol0, 10) else if hasR (rls l) ⟨nr, ac, cs⟩ then (⟨ar, df, bd, rls l⟩, 0) else if 24 ≤ (rls l).length then (pol0, 9) else (⟨ar, df, bd, rls l ++ [⟨nr, ac, cs⟩]⟩, 0)) := rfl
  rw [hll] at hd
  generalize polAdd ⟨ar, df, bd, rls l⟩ ⟨nr, ac, cs⟩ = res at hd ⊢
  have HB0 := Lib.hid (show Below w.heap.size w (((w.alloc (.cells #[.int .i64 ar, .int .i64 df, .int .i64 bd, .slice a l.length cap] 32)).alloc (.cells #[.int .i64 nr, .int .i64 ac, .slice ra cs.length rcap] 35)).alloc (.cells #[.int .i64 0, .int .i64 0, .int .i64 0, .slice none 0 0, .int .i64 0] 39)) from (((Below.refl _ _).alloc (Nat.le_refl _) _).alloc (by simp) _).alloc (by simp <;> omega) _)
  cases h1 : polRight ⟨ar, df, bd, rls l⟩ <;> rw [h1] at q1
  · have HR := Lib.hid (show res = (pol0, 1) by rw [hd, h1]; rfl)
    have Q1 := Lib.hid q1
    clear hd q1 q2 q3 h1 hv hu
    go_enter Try.func24, Try.ntmps24
    go_wp2_with fail
    refine (Q1.out _ HB0.out).mono ?_
    rintro e w1 ⟨rfl, hb1⟩
    obtain ⟨r0, r1, r2, hB, _⟩ := rows3 hb1
    have e0 := row_cell r2 0
    have e1 := row_cell r2 1
    have e2 := row_cell r2 2
    have e3 := row_cell r2 3
    have e4 := row_cell r2 4
    simp only [List.getElem?_toArray, List.getElem?_cons_zero, List.getElem?_cons_succ] at e0 e1 e2 e3 e4
    have f0 := frozen_row r2 0
    have f1 := frozen_row r2 1
    have f2 := frozen_row r2 2
    have f3 := frozen_row r2 3
    have f4 := frozen_row r2 4
    have HB := Lib.hid hB
    clear hb1 r0 r1 r2 hB
    go_wp2_with fail
    exact bodyPost_ret (v := .agg #[.int .i64 0, .int .i64 0, .int .i64 0, .slice none 0 0, .int .i64 1]) (by simp [results, Try.results24, go_sem, e0, e1, e2, e3, e4]) rfl ⟨_, [], by rw [HR.out] <;> rfl, by rw [HR.out] <;> rfl, ⟨OwnL.nil _ _, Inner.nil _ _, fun x hx => by simp at hx⟩, ((((HB.out.setCell (p := ⟨w.heap.size + 1 + 1, 0, none⟩) (by simp <;> omega) _).setCell (p := ⟨w.heap.size + 1 + 1, 1, none⟩) (by simp <;> omega) _).setCell (p := ⟨w.heap.size + 1 + 1, 2, none⟩) (by simp <;> omega) _).setCell (p := ⟨w.heap.size + 1 + 1, 3, none⟩) (by simp <;> omega) _).setCell (p := ⟨w.heap.size + 1 + 1, 4, none⟩) (by simp <;> omega) _⟩
  cases h2 : rlRight ⟨nr, ac, cs⟩ <;> rw [h2] at q2
  · have HR := Lib.hid (show res = (pol0, 1) by rw [hd, h1, h2]; rfl)
    have Q1 := Lib.hid q1
    have Q2 := Lib.hid q2
    clear hd q1 q2 q3 h1 h2 hv hu
    go_enter Try.func24, Try.ntmps24
    go_wp2_with fail
    refine (Q1.out _ HB0.out).mono ?_
    rintro e w1 ⟨rfl, hb1⟩
    obtain ⟨r0, r1, r2, hB, _⟩ := rows3 hb1
    have d0 := row_cell r1 0
    have d1 := row_cell r1 1
    have d2 := row_cell r1 2
    simp only [List.getElem?_toArray, List.getElem?_cons_zero, List.getElem?_cons_succ] at d0 d1 d2
    have HB1 := Lib.hid hb1
    have HBw := Lib.hid hB
    clear hb1 r0 r1 r2 hB
    go_wp2_with fail
    refine (Q2.out _ HBw.out).mono ?_
    rintro e w2 ⟨rfl, hb2⟩
    obtain ⟨r0, r1, r2, hB, _⟩ := rows3 (HB1.out.trans (hb2.mono HB1.out.size))
    clear d0 d1 d2
    have e0 := row_cell r2 0
    have e1 := row_cell r2 1
    have e2 := row_cell r2 2
    have e3 := row_cell r2 3
    have e4 := row_cell r2 4
    simp only [List.getElem?_toArray, List.getElem?_cons_zero, List.getElem?_cons_succ] at e0 e1 e2 e3 e4
    have f0 := frozen_row r2 0
    have f1 := frozen_row r2 1
    have f2 := frozen_row r2 2
    have f3 := frozen_row r2 3
    have f4 := frozen_row r2 4
    have HB := Lib.hid hB
    clear hb2 r0 r1 r2 hB
    go_wp2_with fail
    exact bodyPost_ret (v := .agg #[.int .i64 0, .int .i64 0, .int .i64 0, .slice none 0 0, .int .i64 1]) (by simp [results, Try.results24, go_sem, e0, e1, e2, e3, e4]) rfl ⟨_, [], by rw [HR.out] <;> rfl, by rw [HR.out] <;> rfl, ⟨OwnL.nil _ _, Inner.nil _ _, fun x hx => by simp at hx⟩, ((((HB.out.setCell (p := ⟨w.heap.size + 1 + 1, 0, none⟩) (by simp <;> omega) _).setCell (p := ⟨w.heap.size + 1 + 1, 1, none⟩) (by simp <;> omega) _).setCell (p := ⟨w.heap.size + 1 + 1, 2, none⟩) (by simp <;> omega) _).setCell (p := ⟨w.heap.size + 1 + 1, 3, none⟩) (by simp <;> omega) _).setCell (p := ⟨w.heap.size + 1 + 1, 4, none⟩) (by simp <;> omega) _⟩
  rw [h1, h2, Bool.true_and, Bool.not_true, if_neg (by simp)] at hd
  have Q1 := Lib.hid q1
  have Q2 := Lib.hid q2
  by_cases hac : ac = df
  · rw [if_pos hac] at hd
    have HR := Lib.hid hd
    have hacb : (ac == df) = true := by simpa using hac
    clear hd q1 q2 q3 h1 h2 hv hu hac
    go_enter Try.func24, Try.ntmps24
    go_wp2_with fail
    refine (Q1.out _ HB0.out).mono ?_
    rintro e w1 ⟨rfl, hb1⟩
    obtain ⟨r0, r1, r2, hB, _⟩ := rows3 hb1
    have d0 := row_cell r1 0
    have d1 := row_cell r1 1
    have d2 := row_cell r1 2
    simp only [List.getElem?_toArray, List.getElem?_cons_zero, List.getElem?_cons_succ] at d0 d1 d2
    have HB1 := Lib.hid hb1
    have HBw := Lib.hid hB
    clear hb1 r0 r1 r2 hB
    go_wp2_with fail
    refine (Q2.out _ HBw.out).mono ?_
    rintro e w2 ⟨rfl, hb2⟩
    obtain ⟨r0, r1, r2, hB, _⟩ := rows3 (HB1.out.trans (hb2.mono HB1.out.size))
    clear d0 d1 d2
    have c1 := row_cell r0 1
    have d1 := row_cell r1 1
    simp only [List.getElem?_toArray, List.getElem?_cons_zero, List.getElem?_cons_succ] at c1 d1
    have e0 := row_cell r2 0
    have e1 := row_cell r2 1
    have e2 := row_cell r2 2
    have e3 := row_cell r2 3
    have e4 := row_cell r2 4
    simp only [List.getElem?_toArray, List.getElem?_cons_zero, List.getElem?_cons_succ] at e0 e1 e2 e3 e4
    have f0 := frozen_row r2 0
    have f1 := frozen_row r2 1
    have f2 := frozen_row r2 2
    have f3 := frozen_row r2 3
    have f4 := frozen_row r2 4
    have HB := Lib.hid hB
    clear hb2 r0 r1 r2 hB
    go_wp2_with fail
    exact bodyPost_ret (v := .agg #[.int .i64 0, .int .i64 0, .int .i64 0, .slice none 0 0, .int .i64 10]) (by simp [results, Try.results24, go_sem, e0, e1, e2, e3, e4]) rfl ⟨_, [], by rw [HR.out] <;> rfl, by rw [HR.out] <;> rfl, ⟨OwnL.nil _ _, Inner.nil _ _, fun x hx => by simp at hx⟩, ((((HB.out.setCell (p := ⟨w.heap.size + 1 + 1, 0, none⟩) (by simp <;> omega) _).setCell (p := ⟨w.heap.size + 1 + 1, 1, none⟩) (by simp <;> omega) _).setCell (p := ⟨w.heap.size + 1 + 1, 2, none⟩) (by simp <;> omega) _).setCell (p := ⟨w.heap.size + 1 + 1, 3, none⟩) (by simp <;> omega) _).setCell (p := ⟨w.heap.size + 1 + 1, 4, none⟩) (by simp <;> omega) _⟩
  rw [if_neg hac] at hd
  have hacb : (ac == df) = false := by simpa using hac
  have hlen24 := (polRight_rules h1).1
  have qp := fun W (h : Below w.heap.size w W) => l06Policy_any ar df bd l _ W (RvAt.up (RvAt.below hv h) h.size) (by omega) (fun x hx => by have h3 : x.r.cs.length ≤ 3 := (rlRight_cs (nr := x.r.nr) (ac := x.r.ac) ((polRight_rules h1).2 x hx)).1; omega)
  have qc := fun W (h : Below w.heap.size w W) => l06Copy_any nr ac cs _ W (LAt.up (LAt.below hu h) h.size) (by have := (rlRight_cs h2).1; omega)
  have Q3 := Lib.hid q3
  have QP := Lib.hid qp
  have QC := Lib.hid qc
  clear q1 q2 q3 qp qc h1 h2 hv hu hac
  cases hh : hasR (rls l) ⟨nr, ac, cs⟩
  · rw [hh] at hd Q3
    rw [if_neg (by simp)] at hd
    by_cases h24 : 24 ≤ l.length
    · rw [if_pos h24] at hd
      have HR := Lib.hid hd
      clear hd hh
      go_enter Try.func24, Try.ntmps24
      go_wp2_with fail
      refine (Q1.out _ HB0.out).mono ?_
      rintro e w1 ⟨rfl, hb1⟩
      obtain ⟨r0, r1, r2, hB, _⟩ := rows3 hb1
      have d0 := row_cell r1 0
      have d1 := row_cell r1 1
      have d2 := row_cell r1 2
      simp only [List.getElem?_toArray, List.getElem?_cons_zero, List.getElem?_cons_succ] at d0 d1 d2
      have HB1 := Lib.hid hb1
      have HBw := Lib.hid hB
      clear hb1 r0 r1 r2 hB
      go_wp2_with fail
      refine (Q2.out _ HBw.out).mono ?_
      rintro e w2 ⟨rfl, hb2⟩
      have HB2 := Lib.hid (HB1.out.trans (hb2.mono HB1.out.size))
      clear hb2 d0 d1 d2
      obtain ⟨r0, r1, r2, hB, _⟩ := rows3 HB2.out
      have c1 := row_cell r0 1
      have c3 := row_cell r0 3
      have d0 := row_cell r1 0
      have d1 := row_cell r1 1
      have d2 := row_cell r1 2
      simp only [List.getElem?_toArray, List.getElem?_cons_zero, List.getElem?_cons_succ] at c1 c3 d0 d1 d2
      have HBw2 := Lib.hid hB
      clear r0 r1 r2 hB
      go_wp2_with fail
      refine (Q3.out _ HBw2.out).mono ?_
      rintro e w3 ⟨⟨n, rfl, hn, _, _⟩, hb3⟩
      have HB3 := Lib.hid (HB2.out.trans (hb3.mono HB2.out.size))
      clear hb3 c1 c3 d0 d1 d2
      obtain ⟨r0, r1, r2, hB, hS3⟩ := rows3 HB3.out
      have c0 := row_cell r0 0
      have c1 := row_cell r0 1
      have c2 := row_cell r0 2
      have c3 := row_cell r0 3
      simp only [List.getElem?_toArray, List.getElem?_cons_zero, List.getElem?_cons_succ] at c0 c1 c2 c3
      have e0 := row_cell r2 0
      have e1 := row_cell r2 1
      have e2 := row_cell r2 2
      have e3 := row_cell r2 3
      have e4 := row_cell r2 4
      simp only [List.getElem?_toArray, List.getElem?_cons_zero, List.getElem?_cons_succ] at e0 e1 e2 e3 e4
      have f0 := frozen_row r2 0
      have f1 := frozen_row r2 1
      have f2 := frozen_row r2 2
      have f3 := frozen_row r2 3
      have f4 := frozen_row r2 4
      have HB := Lib.hid hB
      clear r0 r1 r2 hB
      go_wp2_with fail
      exact bodyPost_ret (v := .agg #[.int .i64 0, .int .i64 0, .int .i64 0, .slice none 0 0, .int .i64 9]) (by simp [results, Try.results24, go_sem, e0, e1, e2, e3, e4]) rfl ⟨_, [], by rw [HR.out] <;> rfl, by rw [HR.out] <;> rfl, ⟨OwnL.nil _ _, Inner.nil _ _, fun x hx => by simp at hx⟩, ((((HB.out.setCell (p := ⟨w.heap.size + 1 + 1, 0, none⟩) (by simp <;> omega) _).setCell (p := ⟨w.heap.size + 1 + 1, 1, none⟩) (by simp <;> omega) _).setCell (p := ⟨w.heap.size + 1 + 1, 2, none⟩) (by simp <;> omega) _).setCell (p := ⟨w.heap.size + 1 + 1, 3, none⟩) (by simp <;> omega) _).setCell (p := ⟨w.heap.size + 1 + 1, 4, none⟩) (by simp <;> omega) _⟩
    · rw [if_neg h24] at hd
      have HR := Lib.hid hd
      have h24' : decide (24 ≤ l.length) = false := by simpa using h24
      have h24z : decide ((24 : Int) ≤ (l.length : Int)) = false := by simp; omega
      clear hd hh h24
      go_enter Try.func24, Try.ntmps24
      go_wp2_with fail
      refine (Q1.out _ HB0.out).mono ?_
      rintro e w1 ⟨rfl, hb1⟩
      obtain ⟨r0, r1, r2, hB, _⟩ := rows3 hb1
      have d0 := row_cell r1 0
      have d1 := row_cell r1 1
      have d2 := row_cell r1 2
      simp only [List.getElem?_toArray, List.getElem?_cons_zero, List.getElem?_cons_succ] at d0 d1 d2
      have HB1 := Lib.hid hb1
      have HBw := Lib.hid hB
      clear hb1 r0 r1 r2 hB
      go_wp2_with fail
      refine (Q2.out _ HBw.out).mono ?_
      rintro e w2 ⟨rfl, hb2⟩
      have HB2 := Lib.hid (HB1.out.trans (hb2.mono HB1.out.size))
      clear hb2 d0 d1 d2
      obtain ⟨r0, r1, r2, hB, _⟩ := rows3 HB2.out
      have c1 := row_cell r0 1
      have c3 := row_cell r0 3
      have d0 := row_cell r1 0
      have d1 := row_cell r1 1
      have d2 := row_cell r1 2
      simp only [List.getElem?_toArray, List.getElem?_cons_zero, List.getElem?_cons_succ] at c1 c3 d0 d1 d2
      have HBw2 := Lib.hid hB
      clear r0 r1 r2 hB
      go_wp2_with fail
      refine (Q3.out _ HBw2.out).mono ?_
      rintro e w3 ⟨⟨n, rfl, hn, _, _⟩, hb3⟩
      have HB3 := Lib.hid (HB2.out.trans (hb3.mono HB2.out.size))
      clear hb3 c1 c3 d0 d1 d2
      obtain ⟨r0, r1, r2, hB, hS3⟩ := rows3 HB3.out
      have c0 := row_cell r0 0
      have c1 := row_cell r0 1
      have c2 := row_cell r0 2
      have c3 := row_cell r0 3
      simp only [List.getElem?_toArray, List.getElem?_cons_zero, List.getElem?_cons_succ] at c0 c1 c2 c3
      have HBw3 := Lib.hid hB
      clear r0 r1 r2 hB
      go_wp2_with fail
      refine (QP.out _ HBw3.out).mono ?_
      rintro e w4 ⟨u4, l4, rfl, hl4, ho4, hb4⟩
      obtain ⟨ua, ucap, rfl⟩ := OwnRv.slice ho4
      have HB4 := Lib.hid (HB3.out.trans (hb4.mono HB3.out.size))
      have HO4 := Lib.hid ho4
      have HL4 := Lib.hid hl4
      have hs34 := hb4.size
      clear hb4 c0 c1 c2 c3 ho4 hl4
      go_wp2_with fail
      obtain ⟨r0, r1, r2, hB, hS4⟩ := rows3 HB4.out
      have hr1 := row_alloc r1 (.cells #[.int .i64 ar, .int .i64 df, .int .i64 bd, .slice ua l4.length ucap] 32)
      have hr2 := row_alloc r2 (.cells #[.int .i64 ar, .int .i64 df, .int .i64 bd, .slice ua l4.length ucap] 32)
      have hr5 := heap_alloc_new w4 (.cells #[.int .i64 ar, .int .i64 df, .int .i64 bd, .slice ua l4.length ucap] 32)
      have hB5 : Below w.heap.size w (w4.alloc (.cells #[.int .i64 ar, .int .i64 df, .int .i64 bd, .slice ua l4.length ucap] 32)) := hB.alloc hB.size _
      have ho5 : OwnRv (w.heap.size + 3) (w4.alloc (.cells #[.int .i64 ar, .int .i64 df, .int .i64 bd, .slice ua l4.length ucap] 32)) (.slice ua l4.length ucap) l4 := (OwnRv.base HO4.out hS3).below ((Below.refl _ _).alloc (Nat.le_refl _) _)
      have hlow : ∀ j, (Value.slice ua l4.length ucap).ownBlock = some j → w.heap.size + 3 ≤ j ∧ j < w4.heap.size := fun j hj => ⟨by have := (OwnL.lt HO4.out.1 j hj).1; omega, (OwnL.lt HO4.out.1 j hj).2⟩
      have hs5 : (w4.alloc (.cells #[.int .i64 ar, .int .i64 df, .int .i64 bd, .slice ua l4.length ucap] 32)).heap.size = w4.heap.size + 1 := by simp
      obtain ⟨wr, hwr⟩ : ∃ wr, w4.alloc (.cells #[.int .i64 ar, .int .i64 df, .int .i64 bd, .slice ua l4.length ucap] 32) = wr := ⟨_, rfl⟩
      rw [hwr] at hr1 hr2 hr5 hB5 ho5 hs5 ⊢
      have R1 := Lib.hid hr1
      have R2 := Lib.hid hr2
      have R5 := Lib.hid hr5
      have HBW := Lib.hid hB5
      have HOWN := Lib.hid ho5
      have HLOW := Lib.hid hlow
      clear hwr r0 r1 r2 hB hr1 hr2 hr5 hB5 ho5 hlow
      have hkeep : ∀ w2 : World, Below wr.drew.heap.size wr.drew w2 → (w2.cell? ⟨w4.heap.size, 3, none⟩ = some (.slice ua l4.length ucap) ∧ w2.cell? ⟨w.heap.size + 1, 0, none⟩ = some (.int .i64 nr) ∧ w2.cell? ⟨w.heap.size + 1, 1, none⟩ = some (.int .i64 ac) ∧ w2.cell? ⟨w.heap.size + 1, 2, none⟩ = some (.slice ra cs.length rcap)) := fun w2 hb2 => by
        have hb3 : Below wr.heap.size wr w2 := ((Below.refl wr.heap.size wr).drew).trans hb2
        have k5 := below_row hb3 R5.out
        have k1 := below_row hb3 R1.out
        exact ⟨row_cell k5 3, row_cell k1 0, row_cell k1 1, row_cell k1 2⟩
      have HK := Lib.hid hkeep
      obtain ⟨c3, d0, d1, d2⟩ := hkeep _ (Below.refl _ _)
      rw [World.cell?_drew] at c3 d0 d1 d2
      have hl1 : l4.length ≤ 1000000000 := by have := HL4.out; have h3 := congrArg List.length this; simp [rls] at h3; omega
      have hl20 : w4.heap.size < wr.heap.size := by omega
      clear hkeep
      go_region_law (first
          | ((refine step_push_rv (by rfl) _ _ (by rfl) w5 nr ac cs ub ubcap (w.heap.size + 3) (.slice ua l4.length ucap) l4 (by rfl) hown2.1 (by rfl) hl1 (by omega) ?_; intro v3 w6 hown3 hg3; have hb2' := ((Below.refl wr.heap.size wr).drew).trans hb2; have hk2 := row_grown (below_row hb2' R5.out) hg3.1 (fun e => by have := (HLOW.out _ e).2; omega); have c6 := row_cell hk2 3; simp only [List.getElem?_toArray, List.getElem?_cons_zero, List.getElem?_cons_succ] at c6; have f6 := frozen_row hk2 3; have HK2 := Lib.hid hk2; clear hk2 hb2'; obtain ⟨va, vcap, rfl⟩ := hown3.slice))
          | ((go_simp; (with_reducible refine (QC.out _ HBW.out.drew).mono ?_); rintro e w5 ⟨u2, rfl, hu2, hb2⟩; obtain ⟨ub, ubcap, rfl⟩ := OwnL.slice hu2; obtain ⟨k0, k1, k2, k3⟩ := HK.out _ hb2; have hs2 : wr.heap.size ≤ w5.heap.size := hb2.size; have hw2lt : w4.heap.size < w5.heap.size := Nat.lt_of_lt_of_le hl20 hs2; have hw2lt1 : w.heap.size + 1 < w5.heap.size := (by omega); have hown2 := OwnRv.below HOWN.out (((Below.refl wr.heap.size wr).drew).trans hb2); dsimp only)))
      all_goals
        have hb2' : Below wr.heap.size wr w5 := ((Below.refl wr.heap.size wr).drew).trans hb2
        have k2 := row_grown (below_row hb2' R2.out) hg3.1 (fun e => by have := (HLOW.out _ e).1; omega)
        have hO3 := OwnRv.pushed (r := ⟨nr, ac, cs⟩) HOWN.out hb2' hu2 (by omega) hown3 hg3
        rw [List.length_append] at hO3 hg3
        have hne : (∀ g, (Value.slice va (l4.length + 1) vcap).ownBlock = some g → g ≠ w4.heap.size) ∧ ∀ x ∈ l4 ++ [(⟨⟨nr, ac, cs⟩, .slice ub cs.length ubcap⟩ : Rv)], ∀ g, x.v.ownBlock = some g → g ≠ w4.heap.size := by
          refine ⟨fun g hg1 => ?_, fun x hx g hg1 => ?_⟩
          · rcases hg3.2 with h2 | h2
            · have h4 := (HLOW.out g (h2.symm.trans hg1)).2
              omega
            · have h4 := h2 g hg1
              omega
          · rcases List.mem_append.1 hx with h4 | h4
            · have h5 := (OwnL.lt (HO4.out.2.1.1 x h4) g hg1).2
              omega
            · obtain rfl : x = ⟨⟨nr, ac, cs⟩, .slice ub cs.length ubcap⟩ := by simpa using h4
              have h5 := (OwnL.lt hu2 g hg1).1
              have h6 : wr.drew.heap.size = wr.heap.size := rfl
              omega
        have HNE := Lib.hid hne
        clear hne
        have hB3 : Below w.heap.size w w6 := (HBW.out.trans (hb2'.mono HBW.out.size)).grown hg3.1 (by omega) (fun j hj => by have := (HLOW.out _ hj).1; omega)
        have hs6 := hg3.1.size
        have c0 := row_cell HK2.out 0
        have c1 := row_cell HK2.out 1
        have c2 := row_cell HK2.out 2
        simp only [List.getElem?_toArray, List.getElem?_cons_zero, List.getElem?_cons_succ] at c0 c1 c2
        have r2 := k2
        have e0 := row_cell r2 0
        have e1 := row_cell r2 1
        have e2 := row_cell r2 2
        have e3 := row_cell r2 3
        have e4 := row_cell r2 4
        simp only [List.getElem?_toArray, List.getElem?_cons_zero, List.getElem?_cons_succ] at e0 e1 e2 e3 e4
        have f0 := frozen_row r2 0
        have f1 := frozen_row r2 1
        have f2 := frozen_row r2 2
        have f3 := frozen_row r2 3
        have f4 := frozen_row r2 4
        have HB := Lib.hid hB3
        have HO := Lib.hid hO3
        have HLN := Lib.hid (show rls (l4 ++ [⟨⟨nr, ac, cs⟩, .slice ub cs.length ubcap⟩]) = rls l ++ [⟨nr, ac, cs⟩] by rw [rls_append, HL4.out]; rfl)
        clear k2 r2 hO3 hB3 hown3 hg3 hu2 k0 k1 k3 hb2 hb2'
        go_wp2_with fail
        exact bodyPost_ret (v := .agg #[.int .i64 ar, .int .i64 df, .int .i64 bd, .slice va (l4.length + 1) vcap, .int .i64 0]) (by simp [results, Try.results24, go_sem, e0, e1, e2, e3, e4]) rfl ⟨_, _, by rw [HR.out] <;> rfl, by rw [HR.out]; exact HLN.out,
          ((((((HO.out.setOther (a := ⟨w4.heap.size, 3, none⟩) HNE.out.1 HNE.out.2 _).setBelow (by simp <;> omega) _).setBelow (by simp <;> omega) _).setBelow (by simp <;> omega) _).setBelow (by simp <;> omega) _).setBelow (by simp <;> omega) _).base (by omega), (((((HB.out.setCell (p := ⟨w4.heap.size, 3, none⟩) (by simp <;> omega) _).setCell (p := ⟨w.heap.size + 1 + 1, 0, none⟩) (by simp <;> omega) _).setCell (p := ⟨w.heap.size + 1 + 1, 1, none⟩) (by simp <;> omega) _).setCell (p := ⟨w.heap.size + 1 + 1, 2, none⟩) (by simp <;> omega) _).setCell (p := ⟨w.heap.size + 1 + 1, 3, none⟩) (by simp <;> omega) _).setCell (p := ⟨w.heap.size + 1 + 1, 4, none⟩) (by simp <;> omega) _⟩
  · rw [hh] at hd Q3
    rw [if_pos rfl] at hd
    have HR := Lib.hid hd
    clear hd hh
    go_enter Try.func24, Try.ntmps24
    go_wp2_with fail
    refine (Q1.out _ HB0.out).mono ?_
    rintro e w1 ⟨rfl, hb1⟩
    obtain ⟨r0, r1, r2, hB, _⟩ := rows3 hb1
    have d0 := row_cell r1 0
    have d1 := row_cell r1 1
    have d2 := row_cell r1 2
    simp only [List.getElem?_toArray, List.getElem?_cons_zero, List.getElem?_cons_succ] at d0 d1 d2
    have HB1 := Lib.hid hb1
    have HBw := Lib.hid hB
    clear hb1 r0 r1 r2 hB
    go_wp2_with fail
    refine (Q2.out _ HBw.out).mono ?_
    rintro e w2 ⟨rfl, hb2⟩
    have HB2 := Lib.hid (HB1.out.trans (hb2.mono HB1.out.size))
    clear hb2 d0 d1 d2
    obtain ⟨r0, r1, r2, hB, _⟩ := rows3 HB2.out
    have c1 := row_cell r0 1
    have c3 := row_cell r0 3
    have d0 := row_cell r1 0
    have d1 := row_cell r1 1
    have d2 := row_cell r1 2
    simp only [List.getElem?_toArray, List.getElem?_cons_zero, List.getElem?_cons_succ] at c1 c3 d0 d1 d2
    have HBw2 := Lib.hid hB
    clear r0 r1 r2 hB
    go_wp2_with fail
    refine (Q3.out _ HBw2.out).mono ?_
    rintro e w3 ⟨⟨n, rfl, hn, _, _⟩, hb3⟩
    have HB3 := Lib.hid (HB2.out.trans (hb3.mono HB2.out.size))
    clear hb3 c1 c3 d0 d1 d2
    obtain ⟨r0, r1, r2, hB, hS3⟩ := rows3 HB3.out
    have c0 := row_cell r0 0
    have c1 := row_cell r0 1
    have c2 := row_cell r0 2
    have c3 := row_cell r0 3
    simp only [List.getElem?_toArray, List.getElem?_cons_zero, List.getElem?_cons_succ] at c0 c1 c2 c3
    have HBw3 := Lib.hid hB
    clear r0 r1 r2 hB
    go_wp2_with fail
    refine (QP.out _ HBw3.out).mono ?_
    rintro e w4 ⟨u4, l4, rfl, hl4, ho4, hb4⟩
    obtain ⟨ua, ucap, rfl⟩ := OwnRv.slice ho4
    have HB4 := Lib.hid (HB3.out.trans (hb4.mono HB3.out.size))
    clear c0 c1 c2 c3
    obtain ⟨r0, r1, r2, hB, _⟩ := rows3 HB4.out
    have e0 := row_cell r2 0
    have e1 := row_cell r2 1
    have e2 := row_cell r2 2
    have e3 := row_cell r2 3
    have e4 := row_cell r2 4
    simp only [List.getElem?_toArray, List.getElem?_cons_zero, List.getElem?_cons_succ] at e0 e1 e2 e3 e4
    have f0 := frozen_row r2 0
    have f1 := frozen_row r2 1
    have f2 := frozen_row r2 2
    have f3 := frozen_row r2 3
    have f4 := frozen_row r2 4
    have HB := Lib.hid hB
    have HO4 := Lib.hid (OwnRv.base ho4 (b' := w.heap.size + 3) hS3)
    have HL4 := Lib.hid hl4
    clear hb4 r0 r1 r2 hB ho4 hl4
    go_wp2_with fail
    exact bodyPost_ret (v := .agg #[.int .i64 ar, .int .i64 df, .int .i64 bd, .slice ua l4.length ucap, .int .i64 0]) (by simp [results, Try.results24, go_sem, e0, e1, e2, e3, e4]) rfl ⟨_, l4, by rw [HR.out] <;> rfl, by rw [HR.out]; exact HL4.out,
      (((((HO4.out.setBelow (by simp <;> omega) _).setBelow (by simp <;> omega) _).setBelow (by simp <;> omega) _).setBelow (by simp <;> omega) _).setBelow (by simp <;> omega) _).base (by omega), ((((HB.out.setCell (p := ⟨w.heap.size + 1 + 1, 0, none⟩) (by simp <;> omega) _).setCell (p := ⟨w.heap.size + 1 + 1, 1, none⟩) (by simp <;> omega) _).setCell (p := ⟨w.heap.size + 1 + 1, 2, none⟩) (by simp <;> omega) _).setCell (p := ⟨w.heap.size + 1 + 1, 3, none⟩) (by simp <;> omega) _).setCell (p := ⟨w.heap.size + 1 + 1, 4, none⟩) (by simp <;> omega) _⟩

end Go.Proofs.Ytmnmaijifhojiaa
