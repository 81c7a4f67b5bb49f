/- PolicyAdd of the program walked. -/
import Derived.Test.YtmnmaijifhojiaaJw
import Derived.Test.YtmnmaijifhojiaaJz
set_option maxRecDepth 100000
set_option linter.unusedVariables false
set_option linter.unusedSimpArgs false
namespace Go.Proofs.Ytmnmaijifhojiaa
open Go.RowKit Go.ChangeShapes Go.WideShapes
attribute [local go_sem ↓] Go.wp_at_zero Go.wp_at_succ

theorem fst_flat : ∀ ls : List (Value × List Rv), ls.flatMap (fun x : Value × List Rv => [x.1]) = ls.map Prod.fst
  | [] => rfl
  | x :: l => by rw [List.flatMap_cons, List.map_cons, fst_flat l]; rfl
theorem LsAt.of_row {w : World} {vs : List Value} {ls : List (Value × List Rv)} {T : TypeId} (hm : vs = ls.map Prod.fst) (h : ∀ x ∈ ls, RvAt w w.heap.size x.1 x.2) (hl : ls.length ≤ 1000) :
    LsAt (w.alloc (.cells vs.toArray T)) (w.alloc (.cells vs.toArray T)).heap.size (.slice (some ⟨w.heap.size, 0, none⟩) ls.length ls.length) ls := by
  have hb : Below w.heap.size w (w.alloc (.cells vs.toArray T)) := (Below.refl _ _).alloc (Nat.le_refl _) _
  refine ⟨⟨fun x => rfl, ⟨_, ls.length, rfl, Nat.le_refl _, by unfold maxLen; omega, fun _ => ⟨w.heap.size, 0, rfl, by simp, fun i c hi => ?_⟩⟩, fun _ _ => trivial⟩, fun x hx => RvAt.up (RvAt.below (h x hx) hb) hb.size⟩
  have hf : ls.flatMap (fun x : Value × List Rv => [x.1]) = vs := by rw [hm]; exact fst_flat ls
  rw [hf] at hi
  rw [Nat.zero_add, World.cell?_alloc_at _ _ _ _ rfl]
  simpa using hi
theorem RvAt.lit {w : World} {nr ac : Int} {cs : List Cq} {v : Value} (hv : CqAt w w.heap.size v cs) (hw : In64 nr ∧ In64 ac) : RvAt (w.alloc (.cells #[.int .i64 nr, .int .i64 ac, v] 35)) (w.alloc (.cells #[.int .i64 nr, .int .i64 ac, v] 35)).heap.size (.slice (some ⟨w.heap.size, 0, none⟩) 1 1) [⟨⟨nr, ac, cs⟩, v⟩] := by
  have hb : Below w.heap.size w (w.alloc (.cells #[.int .i64 nr, .int .i64 ac, v] 35)) := (Below.refl _ _).alloc (Nat.le_refl _) _
  refine ⟨⟨rvS, ⟨_, 1, rfl, Nat.le_refl _, by unfold maxLen; omega, fun _ => ⟨w.heap.size, 0, rfl, by simp, fun i c hi => ?_⟩⟩, fun x hx => by obtain rfl : x = ⟨⟨nr, ac, cs⟩, v⟩ := (by simpa using hx); exact hw⟩, fun x hx => by
    obtain rfl : x = ⟨⟨nr, ac, cs⟩, v⟩ := (by simpa using hx)
    exact LAt.up (LAt.below hv hb) hb.size⟩
  rw [Nat.zero_add, World.cell?_alloc_at _ _ _ _ rfl]
  simpa [rvCells] using hi
theorem rlRight_wf {nr ac : Int} {cs : List Cq} (h : rlRight ⟨nr, ac, cs⟩ = true) : In64 nr ∧ In64 ac := by
  unfold rlRight isB at h
  simp only [Bool.and_eq_true, decide_eq_true_eq] at h
  obtain ⟨⟨⟨h1, h2⟩, _⟩, _⟩ := h
  unfold In64
  omega

set_option maxHeartbeats 12800000 in
theorem implPolicyAdd_any (ar df bd : Int) (l : List Rv) (nr ac : Int) (cs : List Cq) (v u : Value) (w : World) (hv : RvAt w w.heap.size v l) (hu : CqAt w w.heap.size u cs) :
    Calls Try.prog 16 #[polV ar df bd v, .agg #[.int .i64 nr, .int .i64 ac, u]] w (PolEnd w.heap.size w (polAdd ⟨ar, df, bd, rls l⟩ ⟨nr, ac, cs⟩)) := by
  have q1 := fun W (h : Below w.heap.size w W) => implPolicyRight_any ar df bd l _ W (RvAt.up (RvAt.below hv h) h.size)
  have q2 := fun W (h : Below w.heap.size w W) => implRuleRight_any nr ac cs _ W (LAt.up (LAt.below hu h) h.size)
  have q3 := fun W (h : Below w.heap.size w W) (hr : rlRight ⟨nr, ac, cs⟩ = true) => hasRule_any _ _ l nr ac cs W (RvAt.up (RvAt.below hv h) h.size) (LAt.up (LAt.below hu h) h.size) hr
  obtain ⟨a, cap, rfl, hlc, hcm⟩ := hv.len
  obtain ⟨ra, rcap, rfl, hlc', hcm'⟩ := hu.len
  unfold maxLen at hcm hcm'
  have hll : (rls l).length = l.length := by simp [rls]
  have hd : polAdd ⟨ar, df, bd, rls l⟩ ⟨nr, ac, cs⟩ = (if !(polRight ⟨ar, df, bd, rls l⟩ && rlRight ⟨nr, ac, cs⟩) then (pol0, 1) else if ac = df then (pol0, 10) else if hasR (rls l) ⟨nr, ac, cs⟩ then (⟨ar, df, bd, rls l⟩, 0) else if 24 ≤ (rls l).length then (pol0, 9) else (⟨ar, df, bd, rls l ++ [⟨nr, ac, cs⟩]⟩, 0)) := rfl
  rw [hll] at hd
  generalize polAdd ⟨ar, df, bd, rls l⟩ ⟨nr, ac, cs⟩ = res at hd ⊢
  have HB0 := Lib.hid (show Below w.heap.size w (((w.alloc (.cells #[.int .i64 ar, .int .i64 df, .int .i64 bd, .slice a l.length cap] 32)).alloc (.cells #[.int .i64 nr, .int .i64 ac, .slice ra cs.length rcap] 35)).alloc (.cells #[.int .i64 0, .int .i64 0, .int .i64 0, .slice none 0 0, .int .i64 0] 39)) from (((Below.refl _ _).alloc (Nat.le_refl _) _).alloc (by simp) _).alloc (by simp <;> omega) _)
  cases h1 : polRight ⟨ar, df, bd, rls l⟩ <;> rw [h1] at q1
  · have HR := Lib.hid (show res = (pol0, 1) by rw [hd, h1]; rfl)
    have Q1 := Lib.hid q1
    clear hd q1 q2 q3 h1 hv hu
    go_enter Try.func16, Try.ntmps16
    go_wp2_with fail
    refine (Q1.out _ HB0.out).mono ?_
    rintro e w1 ⟨rfl, hb1⟩
    obtain ⟨r0, r1, r2, hB, _⟩ := rows3 hb1
    have e0 := row_cell r2 0
    have e1 := row_cell r2 1
    have e2 := row_cell r2 2
    have e3 := row_cell r2 3
    have e4 := row_cell r2 4
    simp only [List.getElem?_toArray, List.getElem?_cons_zero, List.getElem?_cons_succ] at e0 e1 e2 e3 e4
    have f0 := frozen_row r2 0
    have f1 := frozen_row r2 1
    have f2 := frozen_row r2 2
    have f3 := frozen_row r2 3
    have f4 := frozen_row r2 4
    have HB := Lib.hid hB
    clear hb1 r0 r1 r2 hB
    go_wp2_with fail
    exact bodyPost_ret (v := .agg #[.int .i64 0, .int .i64 0, .int .i64 0, .slice none 0 0, .int .i64 1]) (by simp [results, Try.results16, go_sem, e0, e1, e2, e3, e4]) rfl ⟨_, [], by rw [HR.out] <;> rfl, by rw [HR.out] <;> rfl, ⟨OwnL.nil _ _, Inner.nil _ _, fun x hx => by simp at hx⟩, ((((HB.out.setCell (p := ⟨w.heap.size + 1 + 1, 0, none⟩) (by simp <;> omega) _).setCell (p := ⟨w.heap.size + 1 + 1, 1, none⟩) (by simp <;> omega) _).setCell (p := ⟨w.heap.size + 1 + 1, 2, none⟩) (by simp <;> omega) _).setCell (p := ⟨w.heap.size + 1 + 1, 3, none⟩) (by simp <;> omega) _).setCell (p := ⟨w.heap.size + 1 + 1, 4, none⟩) (by simp <;> omega) _⟩
  cases h2 : rlRight ⟨nr, ac, cs⟩ <;> rw [h2] at q2
  · have HR := Lib.hid (show res = (pol0, 1) by rw [hd, h1, h2]; rfl)
    have Q1 := Lib.hid q1
    have Q2 := Lib.hid q2
    clear hd q1 q2 q3 h1 h2 hv hu
    go_enter Try.func16, Try.ntmps16
    go_wp2_with fail
    refine (Q1.out _ HB0.out).mono ?_
    rintro e w1 ⟨rfl, hb1⟩
    obtain ⟨r0, r1, r2, hB, _⟩ := rows3 hb1
    have d0 := row_cell r1 0
    have d1 := row_cell r1 1
    have d2 := row_cell r1 2
    simp only [List.getElem?_toArray, List.getElem?_cons_zero, List.getElem?_cons_succ] at d0 d1 d2
    have HB1 := Lib.hid hb1
    have HBw := Lib.hid hB
    clear hb1 r0 r1 r2 hB
    go_wp2_with fail
    refine (Q2.out _ HBw.out).mono ?_
    rintro e w2 ⟨rfl, hb2⟩
    obtain ⟨r0, r1, r2, hB, _⟩ := rows3 (HB1.out.trans (hb2.mono HB1.out.size))
    clear d0 d1 d2
    have e0 := row_cell r2 0
    have e1 := row_cell r2 1
    have e2 := row_cell r2 2
    have e3 := row_cell r2 3
    have e4 := row_cell r2 4
    simp only [List.getElem?_toArray, List.getElem?_cons_zero, List.getElem?_cons_succ] at e0 e1 e2 e3 e4
    have f0 := frozen_row r2 0
    have f1 := frozen_row r2 1
    have f2 := frozen_row r2 2
    have f3 := frozen_row r2 3
    have f4 := frozen_row r2 4
    have HB := Lib.hid hB
    clear hb2 r0 r1 r2 hB
    go_wp2_with fail
    exact bodyPost_ret (v := .agg #[.int .i64 0, .int .i64 0, .int .i64 0, .slice none 0 0, .int .i64 1]) (by simp [results, Try.results16, go_sem, e0, e1, e2, e3, e4]) rfl ⟨_, [], by rw [HR.out] <;> rfl, by rw [HR.out] <;> rfl, ⟨OwnL.nil _ _, Inner.nil _ _, fun x hx => by simp at hx⟩, ((((HB.out.setCell (p := ⟨w.heap.size + 1 + 1, 0, none⟩) (by simp <;> omega) _).setCell (p := ⟨w.heap.size + 1 + 1, 1, none⟩) (by simp <;> omega) _).setCell (p := ⟨w.heap.size + 1 + 1, 2, none⟩) (by simp <;> omega) _).setCell (p := ⟨w.heap.size + 1 + 1, 3, none⟩) (by simp <;> omega) _).setCell (p := ⟨w.heap.size + 1 + 1, 4, none⟩) (by simp <;> omega) _⟩
  rw [h1, h2, Bool.true_and, Bool.not_true, if_neg (by simp)] at hd
  have Q1 := Lib.hid q1
  have Q2 := Lib.hid q2
  by_cases hac : ac = df
  · rw [if_pos hac] at hd
    have HR := Lib.hid hd
    have hacb : (ac == df) = true := by simpa using hac
    clear hd q1 q2 q3 h1 h2 hv hu hac
    go_enter Try.func16, Try.ntmps16
    go_wp2_with fail
    refine (Q1.out _ HB0.out).mono ?_
    rintro e w1 ⟨rfl, hb1⟩
    obtain ⟨r0, r1, r2, hB, _⟩ := rows3 hb1
    have d0 := row_cell r1 0
    have d1 := row_cell r1 1
    have d2 := row_cell r1 2
    simp only [List.getElem?_toArray, List.getElem?_cons_zero, List.getElem?_cons_succ] at d0 d1 d2
    have HB1 := Lib.hid hb1
    have HBw := Lib.hid hB
    clear hb1 r0 r1 r2 hB
    go_wp2_with fail
    refine (Q2.out _ HBw.out).mono ?_
    rintro e w2 ⟨rfl, hb2⟩
    obtain ⟨r0, r1, r2, hB, _⟩ := rows3 (HB1.out.trans (hb2.mono HB1.out.size))
    clear d0 d1 d2
    have c1 := row_cell r0 1
    have d1 := row_cell r1 1
    simp only [List.getElem?_toArray, List.getElem?_cons_zero, List.getElem?_cons_succ] at c1 d1
    have e0 := row_cell r2 0
    have e1 := row_cell r2 1
    have e2 := row_cell r2 2
    have e3 := row_cell r2 3
    have e4 := row_cell r2 4
    simp only [List.getElem?_toArray, List.getElem?_cons_zero, List.getElem?_cons_succ] at e0 e1 e2 e3 e4
    have f0 := frozen_row r2 0
    have f1 := frozen_row r2 1
    have f2 := frozen_row r2 2
    have f3 := frozen_row r2 3
    have f4 := frozen_row r2 4
    have HB := Lib.hid hB
    clear hb2 r0 r1 r2 hB
    go_wp2_with fail
    exact bodyPost_ret (v := .agg #[.int .i64 0, .int .i64 0, .int .i64 0, .slice none 0 0, .int .i64 10]) (by simp [results, Try.results16, go_sem, e0, e1, e2, e3, e4]) rfl ⟨_, [], by rw [HR.out] <;> rfl, by rw [HR.out] <;> rfl, ⟨OwnL.nil _ _, Inner.nil _ _, fun x hx => by simp at hx⟩, ((((HB.out.setCell (p := ⟨w.heap.size + 1 + 1, 0, none⟩) (by simp <;> omega) _).setCell (p := ⟨w.heap.size + 1 + 1, 1, none⟩) (by simp <;> omega) _).setCell (p := ⟨w.heap.size + 1 + 1, 2, none⟩) (by simp <;> omega) _).setCell (p := ⟨w.heap.size + 1 + 1, 3, none⟩) (by simp <;> omega) _).setCell (p := ⟨w.heap.size + 1 + 1, 4, none⟩) (by simp <;> omega) _⟩
  rw [if_neg hac] at hd
  have hacb : (ac == df) = false := by simpa using hac
  have hlen24 := (polRight_rules h1).1
  have hcl : ∀ x ∈ l, x.r.cs.length ≤ 1048576 := fun x hx => by have h3 : x.r.cs.length ≤ 3 := (rlRight_cs (nr := x.r.nr) (ac := x.r.ac) ((polRight_rules h1).2 x hx)).1; omega
  have hcs3 : cs.length ≤ 1048576 := by have := (rlRight_cs h2).1; omega
  have hwf3 := rlRight_wf h2
  have qp1 := fun W (h : Below w.heap.size w W) => withRules_any ar df bd a l.length cap _ [(.slice a l.length cap, l)] _ (LsAt.of_row (T := 30) (vs := [.slice a l.length cap]) rfl (fun x hx => by obtain rfl : x = (.slice a l.length cap, l) := (by simpa using hx); exact RvAt.up (RvAt.below hv h) h.size) (by simp)) (by simp [catL]; omega) (fun x hx => hcl x (by simpa [catL] using hx))
  have qp2 := fun W (h : Below w.heap.size w W) => by
    have hB := (Below.refl W.heap.size W).alloc (Nat.le_refl _) (.cells #[.int .i64 nr, .int .i64 ac, .slice ra cs.length rcap] 35)
    exact withRules_any ar df bd a l.length cap _ [(.slice a l.length cap, l), (.slice (some ⟨W.heap.size, 0, none⟩) 1 1, [⟨⟨nr, ac, cs⟩, .slice ra cs.length rcap⟩])] _ (LsAt.of_row (T := 30) (w := W.alloc (.cells #[.int .i64 nr, .int .i64 ac, .slice ra cs.length rcap] 35)) (vs := [.slice a l.length cap, .slice (some ⟨W.heap.size, 0, none⟩) 1 1]) rfl (fun x hx => by
      rcases List.mem_cons.1 hx with e | e
      · subst e
        have h4 := h.trans (hB.mono h.size)
        exact RvAt.up (RvAt.below hv h4) h4.size
      · obtain rfl : x = (.slice (some ⟨W.heap.size, 0, none⟩) 1 1, [⟨⟨nr, ac, cs⟩, .slice ra cs.length rcap⟩]) := (by simpa using e)
        exact RvAt.lit (LAt.up (LAt.below hu h) h.size) hwf3) (by simp)) (by simp [catL]; omega) (fun x hx => by
      have h5 : x ∈ l ∨ x = ⟨⟨nr, ac, cs⟩, .slice ra cs.length rcap⟩ := by simpa [catL] using hx
      rcases h5 with h5 | h5
      · exact hcl x h5
      · rw [h5]; exact hcs3)
  simp only [List.length_cons, List.length_nil, Nat.zero_add, Nat.reduceAdd, World.size_alloc] at qp1 qp2
  have Q3 := Lib.hid (fun W h => q3 W h h2)
  have QP := Lib.hid qp1
  have QD := Lib.hid qp2
  clear q1 q2 q3 qp1 qp2 h1 h2 hv hu hac hcl hcs3 hwf3
  cases hh : hasR (rls l) ⟨nr, ac, cs⟩
  · rw [hh] at hd Q3
    rw [if_neg (by simp)] at hd
    by_cases h24 : 24 ≤ l.length
    · rw [if_pos h24] at hd
      have HR := Lib.hid hd
      have h24e : l.length = 24 := by omega
      have h24b : ((l.length : Int) == 24) = true := by rw [h24e]; rfl
      clear h24 h24e
      clear hd hh
      go_enter Try.func16, Try.ntmps16
      go_wp2_with fail
      refine (Q1.out _ HB0.out).mono ?_
      rintro e w1 ⟨rfl, hb1⟩
      obtain ⟨r0, r1, r2, hB, _⟩ := rows3 hb1
      have d0 := row_cell r1 0
      have d1 := row_cell r1 1
      have d2 := row_cell r1 2
      simp only [List.getElem?_toArray, List.getElem?_cons_zero, List.getElem?_cons_succ] at d0 d1 d2
      have HB1 := Lib.hid hb1
      have HBw := Lib.hid hB
      clear hb1 r0 r1 r2 hB
      go_wp2_with fail
      refine (Q2.out _ HBw.out).mono ?_
      rintro e w2 ⟨rfl, hb2⟩
      have HB2 := Lib.hid (HB1.out.trans (hb2.mono HB1.out.size))
      clear hb2 d0 d1 d2
      obtain ⟨r0, r1, r2, hB, _⟩ := rows3 HB2.out
      have c1 := row_cell r0 1
      have c3 := row_cell r0 3
      have d0 := row_cell r1 0
      have d1 := row_cell r1 1
      have d2 := row_cell r1 2
      simp only [List.getElem?_toArray, List.getElem?_cons_zero, List.getElem?_cons_succ] at c1 c3 d0 d1 d2
      have HBw2 := Lib.hid hB
      clear r0 r1 r2 hB
      go_wp2_with fail
      refine (Q3.out _ HBw2.out).mono ?_
      rintro e w3 ⟨rfl, hb3⟩
      have HB3 := Lib.hid (HB2.out.trans (hb3.mono HB2.out.size))
      clear hb3 c1 c3 d0 d1 d2
      obtain ⟨r0, r1, r2, hB, hS3⟩ := rows3 HB3.out
      have c0 := row_cell r0 0
      have c1 := row_cell r0 1
      have c2 := row_cell r0 2
      have c3 := row_cell r0 3
      simp only [List.getElem?_toArray, List.getElem?_cons_zero, List.getElem?_cons_succ] at c0 c1 c2 c3
      have e0 := row_cell r2 0
      have e1 := row_cell r2 1
      have e2 := row_cell r2 2
      have e3 := row_cell r2 3
      have e4 := row_cell r2 4
      simp only [List.getElem?_toArray, List.getElem?_cons_zero, List.getElem?_cons_succ] at e0 e1 e2 e3 e4
      have f0 := frozen_row r2 0
      have f1 := frozen_row r2 1
      have f2 := frozen_row r2 2
      have f3 := frozen_row r2 3
      have f4 := frozen_row r2 4
      have HB := Lib.hid hB
      clear r0 r1 r2 hB
      go_wp2_with fail
      exact bodyPost_ret (v := .agg #[.int .i64 0, .int .i64 0, .int .i64 0, .slice none 0 0, .int .i64 9]) (by simp [results, Try.results16, go_sem, e0, e1, e2, e3, e4]) rfl ⟨_, [], by rw [HR.out] <;> rfl, by rw [HR.out] <;> rfl, ⟨OwnL.nil _ _, Inner.nil _ _, fun x hx => by simp at hx⟩, ((((HB.out.setCell (p := ⟨w.heap.size + 1 + 1, 0, none⟩) (by simp <;> omega) _).setCell (p := ⟨w.heap.size + 1 + 1, 1, none⟩) (by simp <;> omega) _).setCell (p := ⟨w.heap.size + 1 + 1, 2, none⟩) (by simp <;> omega) _).setCell (p := ⟨w.heap.size + 1 + 1, 3, none⟩) (by simp <;> omega) _).setCell (p := ⟨w.heap.size + 1 + 1, 4, none⟩) (by simp <;> omega) _⟩
    · rw [if_neg h24] at hd
      have HR := Lib.hid hd
      have h24' : decide (24 ≤ l.length) = false := by simpa using h24
      have h24z : ((l.length : Int) == 24) = false := by simp; omega
      clear hd hh h24
      go_enter Try.func16, Try.ntmps16
      go_wp2_with fail
      refine (Q1.out _ HB0.out).mono ?_
      rintro e w1 ⟨rfl, hb1⟩
      obtain ⟨r0, r1, r2, hB, _⟩ := rows3 hb1
      have d0 := row_cell r1 0
      have d1 := row_cell r1 1
      have d2 := row_cell r1 2
      simp only [List.getElem?_toArray, List.getElem?_cons_zero, List.getElem?_cons_succ] at d0 d1 d2
      have HB1 := Lib.hid hb1
      have HBw := Lib.hid hB
      clear hb1 r0 r1 r2 hB
      go_wp2_with fail
      refine (Q2.out _ HBw.out).mono ?_
      rintro e w2 ⟨rfl, hb2⟩
      have HB2 := Lib.hid (HB1.out.trans (hb2.mono HB1.out.size))
      clear hb2 d0 d1 d2
      obtain ⟨r0, r1, r2, hB, _⟩ := rows3 HB2.out
      have c1 := row_cell r0 1
      have c3 := row_cell r0 3
      have d0 := row_cell r1 0
      have d1 := row_cell r1 1
      have d2 := row_cell r1 2
      simp only [List.getElem?_toArray, List.getElem?_cons_zero, List.getElem?_cons_succ] at c1 c3 d0 d1 d2
      have HBw2 := Lib.hid hB
      clear r0 r1 r2 hB
      go_wp2_with fail
      refine (Q3.out _ HBw2.out).mono ?_
      rintro e w3 ⟨rfl, hb3⟩
      have HB3 := Lib.hid (HB2.out.trans (hb3.mono HB2.out.size))
      clear hb3 c1 c3 d0 d1 d2
      obtain ⟨r0, r1, r2, hB, hS3⟩ := rows3 HB3.out
      have c0 := row_cell r0 0
      have c1 := row_cell r0 1
      have c2 := row_cell r0 2
      have c3 := row_cell r0 3
      simp only [List.getElem?_toArray, List.getElem?_cons_zero, List.getElem?_cons_succ] at c0 c1 c2 c3
      have d0 := row_cell r1 0
      have d1 := row_cell r1 1
      have d2 := row_cell r1 2
      simp only [List.getElem?_toArray, List.getElem?_cons_zero, List.getElem?_cons_succ] at d0 d1 d2
      have HBw3 := Lib.hid hB
      clear r0 r1 r2 hB
      go_wp2_with fail
      refine (QD.out _ HBw3.out).mono ?_
      rintro e w4 ⟨u4, l4, rfl, hl4, ho4, hb4⟩
      have hbA := ((Below.refl w3.heap.size w3).alloc (Nat.le_refl _) (.cells #[.int .i64 nr, .int .i64 ac, .slice ra cs.length rcap] 35)).alloc (by simp) (.cells #[.slice a l.length cap, .slice (some ⟨w3.heap.size, 0, none⟩) 1 1] 30)
      have hb34 := hbA.trans (hb4.mono (by omega))
      obtain ⟨ua, ucap, rfl⟩ := OwnRv.slice ho4
      have HB4 := Lib.hid (HB3.out.trans (hb34.mono HB3.out.size))
      clear c0 c1 c2 c3 d0 d1 d2
      obtain ⟨r0, r1, r2, hB, _⟩ := rows3 HB4.out
      have e0 := row_cell r2 0
      have e1 := row_cell r2 1
      have e2 := row_cell r2 2
      have e3 := row_cell r2 3
      have e4 := row_cell r2 4
      simp only [List.getElem?_toArray, List.getElem?_cons_zero, List.getElem?_cons_succ] at e0 e1 e2 e3 e4
      have f0 := frozen_row r2 0
      have f1 := frozen_row r2 1
      have f2 := frozen_row r2 2
      have f3 := frozen_row r2 3
      have f4 := frozen_row r2 4
      have HB := Lib.hid hB
      have HO4 := Lib.hid (OwnRv.base ho4 (b' := w.heap.size + 3) (by first | (simp; omega) | omega))
      have HL4 := Lib.hid (show rls l4 = rls l ++ [⟨nr, ac, cs⟩] by rw [hl4]; simp [catL, rls])
      clear hb4 r0 r1 r2 hB ho4 hl4 hbA hb34
      go_wp2_with fail
      exact bodyPost_ret (v := .agg #[.int .i64 ar, .int .i64 df, .int .i64 bd, .slice ua l4.length ucap, .int .i64 0]) (by simp [results, Try.results16, go_sem, e0, e1, e2, e3, e4]) rfl ⟨_, l4, by rw [HR.out] <;> rfl, by rw [HR.out]; exact HL4.out,
        (((((HO4.out.setBelow (by simp <;> omega) _).setBelow (by simp <;> omega) _).setBelow (by simp <;> omega) _).setBelow (by simp <;> omega) _).setBelow (by simp <;> omega) _).base (by omega), ((((HB.out.setCell (p := ⟨w.heap.size + 1 + 1, 0, none⟩) (by simp <;> omega) _).setCell (p := ⟨w.heap.size + 1 + 1, 1, none⟩) (by simp <;> omega) _).setCell (p := ⟨w.heap.size + 1 + 1, 2, none⟩) (by simp <;> omega) _).setCell (p := ⟨w.heap.size + 1 + 1, 3, none⟩) (by simp <;> omega) _).setCell (p := ⟨w.heap.size + 1 + 1, 4, none⟩) (by simp <;> omega) _⟩

  · rw [hh] at hd Q3
    rw [if_pos rfl] at hd
    have HR := Lib.hid hd
    clear hd hh
    go_enter Try.func16, Try.ntmps16
    go_wp2_with fail
    refine (Q1.out _ HB0.out).mono ?_
    rintro e w1 ⟨rfl, hb1⟩
    obtain ⟨r0, r1, r2, hB, _⟩ := rows3 hb1
    have d0 := row_cell r1 0
    have d1 := row_cell r1 1
    have d2 := row_cell r1 2
    simp only [List.getElem?_toArray, List.getElem?_cons_zero, List.getElem?_cons_succ] at d0 d1 d2
    have HB1 := Lib.hid hb1
    have HBw := Lib.hid hB
    clear hb1 r0 r1 r2 hB
    go_wp2_with fail
    refine (Q2.out _ HBw.out).mono ?_
    rintro e w2 ⟨rfl, hb2⟩
    have HB2 := Lib.hid (HB1.out.trans (hb2.mono HB1.out.size))
    clear hb2 d0 d1 d2
    obtain ⟨r0, r1, r2, hB, _⟩ := rows3 HB2.out
    have c1 := row_cell r0 1
    have c3 := row_cell r0 3
    have d0 := row_cell r1 0
    have d1 := row_cell r1 1
    have d2 := row_cell r1 2
    simp only [List.getElem?_toArray, List.getElem?_cons_zero, List.getElem?_cons_succ] at c1 c3 d0 d1 d2
    have HBw2 := Lib.hid hB
    clear r0 r1 r2 hB
    go_wp2_with fail
    refine (Q3.out _ HBw2.out).mono ?_
    rintro e w3 ⟨rfl, hb3⟩
    have HB3 := Lib.hid (HB2.out.trans (hb3.mono HB2.out.size))
    clear hb3 c1 c3 d0 d1 d2
    obtain ⟨r0, r1, r2, hB, hS3⟩ := rows3 HB3.out
    have c0 := row_cell r0 0
    have c1 := row_cell r0 1
    have c2 := row_cell r0 2
    have c3 := row_cell r0 3
    simp only [List.getElem?_toArray, List.getElem?_cons_zero, List.getElem?_cons_succ] at c0 c1 c2 c3
    have d0 := row_cell r1 0
    have d1 := row_cell r1 1
    have d2 := row_cell r1 2
    simp only [List.getElem?_toArray, List.getElem?_cons_zero, List.getElem?_cons_succ] at d0 d1 d2
    have HBw3 := Lib.hid hB
    clear r0 r1 r2 hB
    go_wp2_with fail
    refine (QP.out _ HBw3.out).mono ?_
    rintro e w4 ⟨u4, l4, rfl, hl4, ho4, hb4⟩
    have hbA := (Below.refl w3.heap.size w3).alloc (Nat.le_refl _) (.cells #[.slice a l.length cap] 30)
    have hb34 := hbA.trans (hb4.mono (by omega))
    obtain ⟨ua, ucap, rfl⟩ := OwnRv.slice ho4
    have HB4 := Lib.hid (HB3.out.trans (hb34.mono HB3.out.size))
    clear c0 c1 c2 c3 d0 d1 d2
    obtain ⟨r0, r1, r2, hB, _⟩ := rows3 HB4.out
    have e0 := row_cell r2 0
    have e1 := row_cell r2 1
    have e2 := row_cell r2 2
    have e3 := row_cell r2 3
    have e4 := row_cell r2 4
    simp only [List.getElem?_toArray, List.getElem?_cons_zero, List.getElem?_cons_succ] at e0 e1 e2 e3 e4
    have f0 := frozen_row r2 0
    have f1 := frozen_row r2 1
    have f2 := frozen_row r2 2
    have f3 := frozen_row r2 3
    have f4 := frozen_row r2 4
    have HB := Lib.hid hB
    have HO4 := Lib.hid (OwnRv.base ho4 (b' := w.heap.size + 3) (by first | (simp; omega) | omega))
    have HL4 := Lib.hid (show rls l4 = rls l by rw [hl4]; simp [catL, rls])
    clear hb4 r0 r1 r2 hB ho4 hl4 hbA hb34
    go_wp2_with fail
    exact bodyPost_ret (v := .agg #[.int .i64 ar, .int .i64 df, .int .i64 bd, .slice ua l4.length ucap, .int .i64 0]) (by simp [results, Try.results16, go_sem, e0, e1, e2, e3, e4]) rfl ⟨_, l4, by rw [HR.out] <;> rfl, by rw [HR.out]; exact HL4.out,
      (((((HO4.out.setBelow (by simp <;> omega) _).setBelow (by simp <;> omega) _).setBelow (by simp <;> omega) _).setBelow (by simp <;> omega) _).setBelow (by simp <;> omega) _).base (by omega), ((((HB.out.setCell (p := ⟨w.heap.size + 1 + 1, 0, none⟩) (by simp <;> omega) _).setCell (p := ⟨w.heap.size + 1 + 1, 1, none⟩) (by simp <;> omega) _).setCell (p := ⟨w.heap.size + 1 + 1, 2, none⟩) (by simp <;> omega) _).setCell (p := ⟨w.heap.size + 1 + 1, 3, none⟩) (by simp <;> omega) _).setCell (p := ⟨w.heap.size + 1 + 1, 4, none⟩) (by simp <;> omega) _⟩

end Go.Proofs.Ytmnmaijifhojiaa
