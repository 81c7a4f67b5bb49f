/- Walks of the program's RecordRight and RecordBytes. -/
import Derived.Test.YtmnmaijifhojiaaIe
import Derived.Deep.RegionHeld3
import Derived.Deep.DrawnRows
set_option maxRecDepth 100000
set_option linter.unusedSimpArgs false
namespace Go.Proofs.Ytmnmaijifhojiaa
open Go.RowKit
attribute [local go_sem ↓] Go.wp_at_zero Go.wp_at_succ

theorem six_of {l : List Wd} (h : l.length = 6) : ∃ p0 q0 p1 q1 p2 q2 p3 q3 p4 q4 p5 q5 : Int, l = [⟨p0, q0⟩, ⟨p1, q1⟩, ⟨p2, q2⟩, ⟨p3, q3⟩, ⟨p4, q4⟩, ⟨p5, q5⟩] := by
  match l, h with
  | [⟨p0, q0⟩, ⟨p1, q1⟩, ⟨p2, q2⟩, ⟨p3, q3⟩, ⟨p4, q4⟩, ⟨p5, q5⟩], _ => exact ⟨p0, q0, p1, q1, p2, q2, p3, q3, p4, q4, p5, q5, rfl⟩

theorem same_word (a b : Int) : decide ((⟨(halves (bitsW ⟨a, b⟩)).h, (halves (bitsW ⟨a, b⟩)).l⟩ : Wd) = ⟨a, b⟩) = wdRight ⟨a, b⟩ := by
  have h := halves_bitsW ⟨a, b⟩
  rw [Bool.eq_iff_iff, decide_eq_true_eq]
  exact h

set_option maxHeartbeats 1600000 in
theorem implRecordRight_any (r : Rc) (v : Value) (w : World) (hv : WdAt w w.heap.size v r.args) :
    Calls Try.prog 79 #[rcV r v] w fun e w' => e = .returned (.bool (rcRight r)) ∧ Below w.heap.size w w' := by
  obtain ⟨nr, ar, ⟨ih, il⟩, args⟩ := r
  obtain ⟨a, cap, rfl, hlc, hcm⟩ := hv.len
  unfold maxLen at hcm
  simp only at hv hlc ⊢
  by_cases h3 : args.length = 6
  · obtain ⟨p0, q0, p1, q1, p2, q2, p3, q3, p4, q4, p5, q5, rfl⟩ := six_of h3
    have qa := fun W (h : Below w.heap.size w W) => wordsOf_any nr ar ih il p0 q0 p1 q1 p2 q2 p3 q3 p4 q4 p5 q5 _ W (LAt.up (LAt.below hv h) h.size)
    have qb := fun W => rowOf_any ar nr ih il p0 q0 p1 q1 p2 q2 p3 q3 p4 q4 p5 q5 W
    have heq := fun W => eqWords8 (halves (bitsW ⟨ar, nr⟩)).h (halves (bitsW ⟨ar, nr⟩)).l (halves (bitsW ⟨ih, il⟩)).h (halves (bitsW ⟨ih, il⟩)).l (halves (bitsW ⟨p0, q0⟩)).h (halves (bitsW ⟨p0, q0⟩)).l (halves (bitsW ⟨p1, q1⟩)).h (halves (bitsW ⟨p1, q1⟩)).l (halves (bitsW ⟨p2, q2⟩)).h (halves (bitsW ⟨p2, q2⟩)).l (halves (bitsW ⟨p3, q3⟩)).h (halves (bitsW ⟨p3, q3⟩)).l (halves (bitsW ⟨p4, q4⟩)).h (halves (bitsW ⟨p4, q4⟩)).l (halves (bitsW ⟨p5, q5⟩)).h (halves (bitsW ⟨p5, q5⟩)).l ar nr ih il p0 q0 p1 q1 p2 q2 p3 q3 p4 q4 p5 q5 W
    have hres : rcRight ⟨nr, ar, ⟨ih, il⟩, [⟨p0, q0⟩, ⟨p1, q1⟩, ⟨p2, q2⟩, ⟨p3, q3⟩, ⟨p4, q4⟩, ⟨p5, q5⟩]⟩ = (wdRight ⟨ar, nr⟩ && (wdRight ⟨ih, il⟩ && (wdRight ⟨p0, q0⟩ && (wdRight ⟨p1, q1⟩ && (wdRight ⟨p2, q2⟩ && (wdRight ⟨p3, q3⟩ && (wdRight ⟨p4, q4⟩ && (wdRight ⟨p5, q5⟩ && true)))))))) := by
      simp only [rcRight, List.all_cons, List.all_nil, wdRight, List.length_cons, List.length_nil, Nat.zero_add, Nat.reduceAdd, decide_true, Bool.and_true]
      cases isB nr 0 4294967295 <;> cases isB ar 0 4294967295 <;> simp [Bool.and_assoc]
    rw [same_word ar nr, same_word ih il, same_word p0 q0, same_word p1 q1, same_word p2 q2, same_word p3 q3, same_word p4 q4, same_word p5 q5, ← hres] at heq
    generalize hrr : rcRight ⟨nr, ar, ⟨ih, il⟩, [⟨p0, q0⟩, ⟨p1, q1⟩, ⟨p2, q2⟩, ⟨p3, q3⟩, ⟨p4, q4⟩, ⟨p5, q5⟩]⟩ = rr at *
    clear hres hrr
    have bd0 := bitsW_bd ⟨ar, nr⟩
    have bd1 := bitsW_bd ⟨ih, il⟩
    have bd2 := bitsW_bd ⟨p0, q0⟩
    have bd3 := bitsW_bd ⟨p1, q1⟩
    have bd4 := bitsW_bd ⟨p2, q2⟩
    have bd5 := bitsW_bd ⟨p3, q3⟩
    have bd6 := bitsW_bd ⟨p4, q4⟩
    have bd7 := bitsW_bd ⟨p5, q5⟩
    have qc := fun W => words_any (bitsW ⟨ar, nr⟩) (bitsW ⟨ih, il⟩) (bitsW ⟨p0, q0⟩) (bitsW ⟨p1, q1⟩) (bitsW ⟨p2, q2⟩) (bitsW ⟨p3, q3⟩) (bitsW ⟨p4, q4⟩) (bitsW ⟨p5, q5⟩) W bd0 bd1 bd2 bd3 bd4 bd5 bd6 bd7
    generalize bitsW ⟨ar, nr⟩ = u0 at *
    generalize bitsW ⟨ih, il⟩ = u1 at *
    generalize bitsW ⟨p0, q0⟩ = u2 at *
    generalize bitsW ⟨p1, q1⟩ = u3 at *
    generalize bitsW ⟨p2, q2⟩ = u4 at *
    generalize bitsW ⟨p3, q3⟩ = u5 at *
    generalize bitsW ⟨p4, q4⟩ = u6 at *
    generalize bitsW ⟨p5, q5⟩ = u7 at *
    simp only [List.length_cons, List.length_nil, Nat.zero_add, Nat.reduceAdd] at qa hlc ⊢
    have QA := Lib.hid qa
    have QB := Lib.hid qb
    have QC := Lib.hid qc
    clear qa qb qc hv bd0 bd1 bd2 bd3 bd4 bd5 bd6 bd7
    go_enter Try.func79, Try.ntmps79
    go_wp2_with fail
    refine (QA.out _ ((Below.refl _ _).alloc (Nat.le_refl _) _)).mono ?_
    rintro e w1 ⟨rfl, hb1⟩
    have HB1 := Lib.hid (box_below hb1)
    clear hb1
    have hkeep : ∀ W : World, Below (w1.alloc (.cells #[.int .i64 ar, .int .i64 nr, .int .i64 ih, .int .i64 il, .int .i64 p0, .int .i64 q0, .int .i64 p1, .int .i64 q1, .int .i64 p2, .int .i64 q2, .int .i64 p3, .int .i64 q3, .int .i64 p4, .int .i64 q4, .int .i64 p5, .int .i64 q5] 155)).heap.size (w1.alloc (.cells #[.int .i64 ar, .int .i64 nr, .int .i64 ih, .int .i64 il, .int .i64 p0, .int .i64 q0, .int .i64 p1, .int .i64 q1, .int .i64 p2, .int .i64 q2, .int .i64 p3, .int .i64 q3, .int .i64 p4, .int .i64 q4, .int .i64 p5, .int .i64 q5] 155)) W → (W.cell? ⟨w1.heap.size, 0, none⟩ = some (.int .i64 ar) ∧ W.cell? ⟨w1.heap.size, 1, none⟩ = some (.int .i64 nr) ∧ W.cell? ⟨w1.heap.size, 2, none⟩ = some (.int .i64 ih) ∧ W.cell? ⟨w1.heap.size, 3, none⟩ = some (.int .i64 il) ∧ W.cell? ⟨w1.heap.size, 4, none⟩ = some (.int .i64 p0) ∧ W.cell? ⟨w1.heap.size, 5, none⟩ = some (.int .i64 q0) ∧ W.cell? ⟨w1.heap.size, 6, none⟩ = some (.int .i64 p1) ∧ W.cell? ⟨w1.heap.size, 7, none⟩ = some (.int .i64 q1) ∧ W.cell? ⟨w1.heap.size, 8, none⟩ = some (.int .i64 p2) ∧ W.cell? ⟨w1.heap.size, 9, none⟩ = some (.int .i64 q2) ∧ W.cell? ⟨w1.heap.size, 10, none⟩ = some (.int .i64 p3) ∧ W.cell? ⟨w1.heap.size, 11, none⟩ = some (.int .i64 q3) ∧ W.cell? ⟨w1.heap.size, 12, none⟩ = some (.int .i64 p4) ∧ W.cell? ⟨w1.heap.size, 13, none⟩ = some (.int .i64 q4) ∧ W.cell? ⟨w1.heap.size, 14, none⟩ = some (.int .i64 p5) ∧ W.cell? ⟨w1.heap.size, 15, none⟩ = some (.int .i64 q5)) := fun W hb => ⟨box_cell hb 0, box_cell hb 1, box_cell hb 2, box_cell hb 3, box_cell hb 4, box_cell hb 5, box_cell hb 6, box_cell hb 7, box_cell hb 8, box_cell hb 9, box_cell hb 10, box_cell hb 11, box_cell hb 12, box_cell hb 13, box_cell hb 14, box_cell hb 15⟩
    have HK := Lib.hid hkeep
    clear hkeep
    have hbw0 : Below (w1.alloc (.cells #[.int .i64 ar, .int .i64 nr, .int .i64 ih, .int .i64 il, .int .i64 p0, .int .i64 q0, .int .i64 p1, .int .i64 q1, .int .i64 p2, .int .i64 q2, .int .i64 p3, .int .i64 q3, .int .i64 p4, .int .i64 q4, .int .i64 p5, .int .i64 q5] 155)).heap.size (w1.alloc (.cells #[.int .i64 ar, .int .i64 nr, .int .i64 ih, .int .i64 il, .int .i64 p0, .int .i64 q0, .int .i64 p1, .int .i64 q1, .int .i64 p2, .int .i64 q2, .int .i64 p3, .int .i64 q3, .int .i64 p4, .int .i64 q4, .int .i64 p5, .int .i64 q5] 155)) (w1.alloc (.cells #[.int .i64 ar, .int .i64 nr, .int .i64 ih, .int .i64 il, .int .i64 p0, .int .i64 q0, .int .i64 p1, .int .i64 q1, .int .i64 p2, .int .i64 q2, .int .i64 p3, .int .i64 q3, .int .i64 p4, .int .i64 q4, .int .i64 p5, .int .i64 q5] 155)).drew := (Below.refl _ _).drew
    go_wp2_with fail
    go_region_held3 (fun w' => w'.cell? ⟨w1.heap.size, 0, none⟩ = some (.int .i64 ar) ∧ w'.cell? ⟨w1.heap.size, 1, none⟩ = some (.int .i64 nr) ∧ w'.cell? ⟨w1.heap.size, 2, none⟩ = some (.int .i64 ih) ∧ w'.cell? ⟨w1.heap.size, 3, none⟩ = some (.int .i64 il) ∧ w'.cell? ⟨w1.heap.size, 4, none⟩ = some (.int .i64 p0) ∧ w'.cell? ⟨w1.heap.size, 5, none⟩ = some (.int .i64 q0) ∧ w'.cell? ⟨w1.heap.size, 6, none⟩ = some (.int .i64 p1) ∧ w'.cell? ⟨w1.heap.size, 7, none⟩ = some (.int .i64 q1) ∧ w'.cell? ⟨w1.heap.size, 8, none⟩ = some (.int .i64 p2) ∧ w'.cell? ⟨w1.heap.size, 9, none⟩ = some (.int .i64 q2) ∧ w'.cell? ⟨w1.heap.size, 10, none⟩ = some (.int .i64 p3) ∧ w'.cell? ⟨w1.heap.size, 11, none⟩ = some (.int .i64 q3) ∧ w'.cell? ⟨w1.heap.size, 12, none⟩ = some (.int .i64 p4) ∧ w'.cell? ⟨w1.heap.size, 13, none⟩ = some (.int .i64 q4) ∧ w'.cell? ⟨w1.heap.size, 14, none⟩ = some (.int .i64 p5) ∧ w'.cell? ⟨w1.heap.size, 15, none⟩ = some (.int .i64 q5))
      (first | exact HK.out _ hbw2 | exact HK.out _ hbw1 | exact HK.out _ hbw0 | go_keep)
      (first
        | (go_at_call 108; (with_reducible refine (QB.out _).mono ?_); rintro e w2 ⟨rfl, hb2⟩; have hbw1 := hbw0.trans (hb2.mono hbw0.size))
        | (go_at_call 109; (with_reducible refine (QC.out _).mono ?_); rintro e w3 ⟨rfl, hb3⟩; have hbw2 := hbw1.trans (hb3.mono hbw1.size)))
    have HE := Lib.hid (HB1.out.trans ((box_below hbw2).mono HB1.out.size))
    clear hbw0 hbw1 hbw2 hb2 hb3 heq
    go_wp2_with fail
    go_ret
    exact ⟨rfl, HE.out⟩
  · have HR := Lib.hid (show rcRight ⟨nr, ar, ⟨ih, il⟩, args⟩ = false by simp [rcRight, h3])
    have hq : ((args.length : Int) != 6) = true := by simp; omega
    clear h3 hv
    go_enter Try.func79, Try.ntmps79
    go_wp2_with fail
    go_ret
    exact ⟨ret_bool HR.out.symm, (Below.refl _ _).alloc (Nat.le_refl _) _⟩

end Go.Proofs.Ytmnmaijifhojiaa
